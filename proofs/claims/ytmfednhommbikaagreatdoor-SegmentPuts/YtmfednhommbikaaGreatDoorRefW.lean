/- The walks of the document's writer. -/
import Derived.Lib.AppendStr
import Derived.Test.YtmfednhommbikaaGreatDoorWalksS
namespace Go.Proofs.YtmfednhommbikaaGreatDoor
open Go.RowKit

/- The document's writer at block g to which the bytes l were put. -/
abbrev WrF (w : World) (base g : Nat) (q : Option Nat) (l : List UInt8) : Prop := RowAt w base g 105 [] q l
theorem owns_al {w : World} {base n : Nat} {v : Value} {xs : List Value} (h : w.ownsRow base 5 1 v n xs) (o : Obj) : (w.alloc o).ownsRow base 5 1 v n xs := by
  refine ⟨h.1, ?_⟩
  rcases h.2 with h | ⟨b, cap, cur, hv, hb, hb2, hr⟩
  · exact .inl h
  · exact .inr ⟨b, cap, cur, hv, hb, (Below.heap_alloc w o b (heap_lt hb2)).trans hb2, hr⟩
theorem row_al {w w1 : World} {base g T : Nat} {tl : List Value} {v v' : Value} {l' : List UInt8} (h1 : w.heap[g]? = some (.cells (v :: tl).toArray T (0, 0))) (hb : base ≤ w.heap.size) (hne : blk v ≠ some g) {o : Obj}
    (hg : (w.alloc o).grownBy w1 (blk v)) {n : Nat} (ho : w1.ownsRow base 5 1 v' n (bv l')) (hat : blk v' = blk v ∨ blk v' = some (w.alloc o).heap.size) :
    RowAt (w1.setCell ⟨g, 0, none⟩ v') base g T tl (blk v') l' ∧ Put g (blk v) w (w1.setCell ⟨g, 0, none⟩ v') (blk v') := by
  have := RowAt.turn ((Below.heap_alloc w o g (heap_lt h1)).trans h1) (by simp; omega) hne hg ho hat
  exact ⟨this.1, (Put.alloc g _ w o).trans this.2⟩
theorem al_le {w : World} {base : Nat} (h : base ≤ w.heap.size) (o : Obj) : base ≤ (w.alloc o).heap.size := by simp; omega
theorem strCells_mkS (s : List UInt8) : Go.Lib.strCells (mkS s) = bv s := by
  simp [Go.Lib.strCells, mkS, bv]
/- A text's bytes behind a row of one's own that is there. -/
theorem app_str {w : World} {base : Nat} {v : Value} {l : List UInt8} {n : Nat} (ty : TypeId) (hown : w.ownsRow base 5 1 v n (bv l)) (s : List UInt8) (hb : base ≤ w.heap.size) (hl : 0 < l.length) (hn : l.length + s.length ≤ 140737488355328) :
    ∃ v' w', (Builtin.append_ #[24, 9] ty #[v, .string (mkS s)]).run Tryz.prog w = .ok v' w' ∧ w'.ownsRow base 5 1 v' (l.length + s.length) (bv (l ++ s)) ∧ w.grownBy w' (blk v) ∧ (blk v' = blk v ∨ blk v' = some w.heap.size) := by
  obtain ⟨i0, hi, hz0, hz1, hz2⟩ := info_parts info5
  have hn' : n = l.length := by have := hown.1; rw [bv_len] at this; omega
  subst hn'
  obtain ⟨v', w', hr, ho, hg, _⟩ := Go.Lib.run_append_own_string (P := Tryz.prog) w base 24 9 ty 5 i0 Tryz.underlying24 Tryz.underlying9 hi hz0 hz1 hz2 v l.length (bv l) hown (mkS s) (by rw [mkS_size]; unfold maxLen; omega) (by rw [mkS_size]; omega) hb
  refine ⟨v', w', hr, ?_, hg, ?_⟩
  · rw [mkS_size, strCells_mkS, ← bv_app] at ho; exact ho
  · rcases hown.2 with ⟨rfl, h0⟩ | ⟨g, cap, cur, rfl, hbg, hgg, hnc, hcm, hcs, htake⟩
    · omega
    · by_cases hroom : l.length + (mkS s).size ≤ cap
      · have hr2 := Go.Lib.run_append_room_string (P := Tryz.prog) w 24 9 ty 5 i0 Tryz.underlying24 Tryz.underlying9 hi hz1 g l.length cap cur hgg (mkS s) hroom (by rw [mkS_size] at *; omega)
        rw [hr] at hr2
        injection hr2 with e1 e2
        exact .inl (by rw [e1]; rfl)
      · have hr2 := Go.Lib.run_append_grow_string (P := Tryz.prog) w 24 9 ty 5 i0 (.int .u8 0) Tryz.underlying24 Tryz.underlying9 hi hz0 ⟨g, 0, none⟩ l.length cap (bv l) (by rw [hz1, bv_len]; omega) (hown.cells (g := g) rfl) (mkS s) (by omega) (by rw [mkS_size] at *; omega) (by rw [hz2]; exact growslice_fits (by omega) (by rw [mkS_size] at *; omega))
        rw [hr] at hr2
        injection hr2 with e1 e2
        exact .inr (by rw [e1]; rfl)
theorem wpList_apps {w : World} {ops : Array Oper} {rest : List Oper} {o : Oper} {a : Act} {Q : Exit → Act → World → Prop} (hgd : o.guard = none) (s x : Operand)
    (ho : o.op = .call { callee := .builtin .append, args := #[s, x], argTypes := #[24, 9] })
    {base n : Nat} (v : Value) {l news : List UInt8} (hs : a.eval s = v) (hxe : a.eval x = .string (mkS news)) (hown : w.ownsRow base 5 1 v n (bv l))
    (hb : base ≤ w.heap.size) (hl : 0 < l.length) (hn : l.length + news.length ≤ 140737488355328)
    (h : ∀ A C w', w'.ownsRow base 5 1 (.slice A (l.length + news.length) C) (l.length + news.length) (bv (l ++ news)) → w.grownBy w' (blk v) → (blk (.slice A (l.length + news.length) C) = blk v ∨ blk (.slice A (l.length + news.length) C) = some w.heap.size) → wpList Tryz.prog ops Q rest (a.put o.dst (.slice A (l.length + news.length) C)) w') :
    wpList Tryz.prog ops Q (o :: rest) a w := by
  refine wpList_plain hgd fun K hK => ?_
  obtain ⟨v', w', hr, h2, h3, h4⟩ := app_str o.type hown news hb hl hn
  unfold Oper.wp execOp
  simp only [ho, resolve, invoke, builtin, Sem.run_bind, Sem.run_pure, Result.andThen_ok, List.map_toArray, List.map_cons, List.map_nil, hs, hxe, hr]
  obtain ⟨A, C, rfl⟩ := owns_form h2
  exact hK _ _ (h A C w' h2 h3 h4)

theorem rfNewW_any (w : World) (base : Nat) (hb : base ≤ w.heap.size) :
    Calls Tryz.prog 38 #[] w fun e w' => e = .returned (.pointer (some ⟨w.heap.size, 0, none⟩)) ∧ WrF w' base w.heap.size none [] ∧ Below w.heap.size w w' ∧ w'.heap.size = w.heap.size + 1 := by
  go_enter Tryz.func38, Tryz.ntmps38
  go_wp2
  go_ret
  refine ⟨rfl, ⟨.slice none 0 0, heap_alloc_new w _, World.ownsRow_nil _ _ _ _, rfl, by simp, ?_⟩, (Below.refl _ _).alloc (Nat.le_refl _) _, by simp⟩
  simp; omega
theorem rfWByte_any {w : World} {base g : Nat} {q : Option Nat} {l : List UInt8} (h : WrF w base g q l) (z : Int) (x : UInt8) (hz : z = (x.toNat : Int)) (hl : l.length + 1 ≤ 140737488355328) :
    Calls Tryz.prog 39 #[.pointer (some ⟨g, 0, none⟩), .int .u8 z] w fun e w' => e = .returned (.tuple #[]) ∧ ∃ q', WrF w' base g q' (l ++ [x]) ∧ Put g q w w' q' := by
  obtain ⟨v, h1, h2, rfl, hne, hb⟩ := h
  have hc := cell_at h1 0
  rw [show (v :: ([] : List Value)).toArray[0]? = some v from rfl] at hc
  have H1 : Hid (w.heap[g]? = some (.cells (v :: []).toArray 105 (0, 0))) := h1
  have HZ : Hid (z = (x.toNat : Int)) := hz
  have hgl := heap_lt h1
  clear h1 hz
  go_enter Tryz.func39, Tryz.ntmps39
  go_wp2_with (at_builtin; refine wpList_app rfl (.tmp 8) (.tmp 10) rfl v _ rfl rfl (owns_al h2 _) (Bs_one _ _ x HZ.out) (al_le hb _) (by simpa using hl) ?_; intro A C w1 ho hg hat _; (have hf1 : w1.frozen? ⟨g, 0, none⟩ = false := frozen_at ((hg.block g (by simp; omega) (fun e => hne e.symm)).trans ((Below.heap_alloc w _ g hgl).trans H1.out)) 0); (have hc1 : w1.cell? ⟨g, 0, none⟩ = some v := by rw [cell_at ((hg.block g (by simp; omega) (fun e => hne e.symm)).trans ((Below.heap_alloc w _ g hgl).trans H1.out)) 0]; rfl))
  go_end0
  have := row_al H1.out hb hne hg ho hat
  exact ⟨rfl, _, this.1, this.2⟩
theorem zw_pos (n : Int) (h0 : 0 ≤ n) (h2 : n < 9223372036854775808) : (zz n : Int) = 2 * n := by
  unfold zz; rw [if_pos h0]; omega
theorem zw_neg (n : Int) (h0 : n < 0) : (zz n : Int) = 2 * (-(n + 1)) + 1 := by
  unfold zz; rw [if_neg (by omega)]; omega
set_option maxRecDepth 100000 in
set_option maxHeartbeats 1000000 in
theorem rfWInt_any {w : World} {base g : Nat} {q : Option Nat} {l : List UInt8} (h : WrF w base g q l) (n : Int) (h1 : -9223372036854775808 ≤ n) (h2 : n < 9223372036854775808) (hn : l.length + (numB n).length ≤ 140737488355328) :
    Calls Tryz.prog 40 #[.pointer (some ⟨g, 0, none⟩), .int .i64 n] w fun e w' => e = .returned (.tuple #[]) ∧ ∃ q', WrF w' base g q' (l ++ numB n) ∧ Put g q w w' q' := by
  have hzl := zz_lt n h1 h2
  have HH : Hid (WrF w base g q l) := h
  have HN : Hid (l.length + (numB n).length ≤ 140737488355328) := hn
  clear h hn
  rcases Int.lt_or_le n 0 with h0 | h0
  · have hz := zw_neg n h0
    go_enter Tryz.func40, Tryz.ntmps40
    go_wp2_with fail
    go_loopw [4] (fun u wr => ∃ (x : Nat) (pre : List UInt8) (q1 : Option Nat), u = .int .u64 x ∧ x < 18446744073709551616 ∧ numB n = pre ++ digs x ∧ WrF wr base g q1 (l ++ pre) ∧ Put g q w wr q1)
      (fun u _ => (intOf u).toNat)
    case atStart =>
      refine ⟨zz n, [], q, ?_, hzl, rfl, by rw [List.append_nil]; exact HH.out, Put.refl _ _ _⟩
      rw [hz]
    case round =>
      obtain ⟨x, pre, q1, rfl, hx, hd, hr, hp⟩ := hrel
      have hl1 : (numB n).length = pre.length + (digs x).length := by rw [hd]; simp
      have hpos := digs_pos x
      obtain ⟨v, r1, r2, rfl, hne, hb⟩ := hr
      have hc := cell_at r1 0
      rw [show (v :: ([] : List Value)).toArray[0]? = some v from rfl] at hc
      have H1 : Hid (wr.heap[g]? = some (.cells (v :: []).toArray 105 (0, 0))) := r1
      have hgl := heap_lt r1
      clear r1
      by_cases hbb : x < 128
      · have hb1 : ¬ ((128 : Int) ≤ x) := by omega
        rw [digs_small hbb] at hd
        have hlen : (l ++ pre).length + [UInt8.ofNat x].length ≤ 140737488355328 := by rw [digs_small hbb] at hl1; simp at hl1 ⊢; have := HN.out; omega
        go_wp2_with (at_builtin; refine wpList_app rfl (.tmp 37) (.tmp 40) rfl v _ rfl rfl (owns_al r2 _) (Bs_one _ _ (UInt8.ofNat x) (by rw [ofNat_small (by omega)])) (al_le hb _) hlen ?_; intro A C w1 ho hg hat _; (have hf1 : w1.frozen? ⟨g, 0, none⟩ = false := frozen_at ((hg.block g (by simp; omega) (fun e => hne e.symm)).trans ((Below.heap_alloc wr _ g hgl).trans H1.out)) 0); (have hc1 : w1.cell? ⟨g, 0, none⟩ = some v := by rw [cell_at ((hg.block g (by simp; omega) (fun e => hne e.symm)).trans ((Below.heap_alloc wr _ g hgl).trans H1.out)) 0]; rfl))
        go_end0
        have h3 := row_al H1.out hb hne hg ho hat
        simp only [List.length_append, List.length_cons, List.length_nil, Nat.zero_add] at h3
        rw [List.append_assoc] at h3
        exact ⟨rfl, _, h3.1, hp.trans h3.2⟩
      · have hb1 : (128 : Int) ≤ x := by omega
        rw [digs_big hbb] at hd hl1
        have hlen : (l ++ pre).length + [UInt8.ofNat (x % 128 + 128)].length ≤ 140737488355328 := by simp at hl1 ⊢; have := HN.out; omega
        go_wp2_with (at_builtin; refine wpList_app rfl (.tmp 22) (.tmp 27) rfl v _ rfl rfl (owns_al r2 _) (Bs_one _ _ (UInt8.ofNat (x % 128 + 128)) (by rw [ofNat_small (by omega)]; omega)) (al_le hb _) hlen ?_; intro A C w1 ho hg hat _; (have hf1 : w1.frozen? ⟨g, 0, none⟩ = false := frozen_at ((hg.block g (by simp; omega) (fun e => hne e.symm)).trans ((Below.heap_alloc wr _ g hgl).trans H1.out)) 0); (have hc1 : w1.cell? ⟨g, 0, none⟩ = some v := by rw [cell_at ((hg.block g (by simp; omega) (fun e => hne e.symm)).trans ((Below.heap_alloc wr _ g hgl).trans H1.out)) 0]; rfl))
        have h3 := row_al H1.out hb hne hg ho hat
        simp only [List.length_append, List.length_cons, List.length_nil, Nat.zero_add] at h3
        rw [List.append_assoc] at h3
        go_roundw
        case rel =>
          refine ⟨x / 128, pre ++ [UInt8.ofNat (x % 128 + 128)], _, by simp, by omega, by rw [hd]; simp, h3.1, hp.trans h3.2⟩
        case measure =>
          simp [intOf]; omega
  · have hz := zw_pos n h0 h2
    go_enter Tryz.func40, Tryz.ntmps40
    go_wp2_with fail
    go_loopw [4] (fun u wr => ∃ (x : Nat) (pre : List UInt8) (q1 : Option Nat), u = .int .u64 x ∧ x < 18446744073709551616 ∧ numB n = pre ++ digs x ∧ WrF wr base g q1 (l ++ pre) ∧ Put g q w wr q1)
      (fun u _ => (intOf u).toNat)
    case atStart =>
      refine ⟨zz n, [], q, ?_, hzl, rfl, by rw [List.append_nil]; exact HH.out, Put.refl _ _ _⟩
      rw [hz]
    case round =>
      obtain ⟨x, pre, q1, rfl, hx, hd, hr, hp⟩ := hrel
      have hl1 : (numB n).length = pre.length + (digs x).length := by rw [hd]; simp
      have hpos := digs_pos x
      obtain ⟨v, r1, r2, rfl, hne, hb⟩ := hr
      have hc := cell_at r1 0
      rw [show (v :: ([] : List Value)).toArray[0]? = some v from rfl] at hc
      have H1 : Hid (wr.heap[g]? = some (.cells (v :: []).toArray 105 (0, 0))) := r1
      have hgl := heap_lt r1
      clear r1
      by_cases hbb : x < 128
      · have hb1 : ¬ ((128 : Int) ≤ x) := by omega
        rw [digs_small hbb] at hd
        have hlen : (l ++ pre).length + [UInt8.ofNat x].length ≤ 140737488355328 := by rw [digs_small hbb] at hl1; simp at hl1 ⊢; have := HN.out; omega
        go_wp2_with (at_builtin; refine wpList_app rfl (.tmp 37) (.tmp 40) rfl v _ rfl rfl (owns_al r2 _) (Bs_one _ _ (UInt8.ofNat x) (by rw [ofNat_small (by omega)])) (al_le hb _) hlen ?_; intro A C w1 ho hg hat _; (have hf1 : w1.frozen? ⟨g, 0, none⟩ = false := frozen_at ((hg.block g (by simp; omega) (fun e => hne e.symm)).trans ((Below.heap_alloc wr _ g hgl).trans H1.out)) 0); (have hc1 : w1.cell? ⟨g, 0, none⟩ = some v := by rw [cell_at ((hg.block g (by simp; omega) (fun e => hne e.symm)).trans ((Below.heap_alloc wr _ g hgl).trans H1.out)) 0]; rfl))
        go_end0
        have h3 := row_al H1.out hb hne hg ho hat
        simp only [List.length_append, List.length_cons, List.length_nil, Nat.zero_add] at h3
        rw [List.append_assoc] at h3
        exact ⟨rfl, _, h3.1, hp.trans h3.2⟩
      · have hb1 : (128 : Int) ≤ x := by omega
        rw [digs_big hbb] at hd hl1
        have hlen : (l ++ pre).length + [UInt8.ofNat (x % 128 + 128)].length ≤ 140737488355328 := by simp at hl1 ⊢; have := HN.out; omega
        go_wp2_with (at_builtin; refine wpList_app rfl (.tmp 22) (.tmp 27) rfl v _ rfl rfl (owns_al r2 _) (Bs_one _ _ (UInt8.ofNat (x % 128 + 128)) (by rw [ofNat_small (by omega)]; omega)) (al_le hb _) hlen ?_; intro A C w1 ho hg hat _; (have hf1 : w1.frozen? ⟨g, 0, none⟩ = false := frozen_at ((hg.block g (by simp; omega) (fun e => hne e.symm)).trans ((Below.heap_alloc wr _ g hgl).trans H1.out)) 0); (have hc1 : w1.cell? ⟨g, 0, none⟩ = some v := by rw [cell_at ((hg.block g (by simp; omega) (fun e => hne e.symm)).trans ((Below.heap_alloc wr _ g hgl).trans H1.out)) 0]; rfl))
        have h3 := row_al H1.out hb hne hg ho hat
        simp only [List.length_append, List.length_cons, List.length_nil, Nat.zero_add] at h3
        rw [List.append_assoc] at h3
        go_roundw
        case rel =>
          refine ⟨x / 128, pre ++ [UInt8.ofNat (x % 128 + 128)], _, by simp, by omega, by rw [hd]; simp, h3.1, hp.trans h3.2⟩
        case measure =>
          simp [intOf]; omega
theorem rfWDone_any {w : World} {base g : Nat} {q : Option Nat} {l : List UInt8} (h : WrF w base g q l) (hl : l.length ≤ 140737488355328) :
    Calls Tryz.prog 42 #[.pointer (some ⟨g, 0, none⟩)] w fun e w' => ∃ v, e = .returned v ∧ New w w' v l := by
  obtain ⟨v, h1, h2, rfl, hne, hb⟩ := h
  have hc := cell_at h1 0
  rw [show (v :: ([] : List Value)).toArray[0]? = some v from rfl] at hc
  have HX : Hid (Bs w v l) := Bs.of_owns h2
  have hgl := heap_lt h1
  obtain ⟨A, C, rfl⟩ := owns_form h2
  clear h1 h2
  go_enter Tryz.func42, Tryz.ntmps42
  go_wp2_with (at_builtin; refine wpList_app rfl (.tmp 3) (.tmp 7) rfl (.slice (some ⟨w.heap.size, 0, none⟩) 0 0) (.slice A l.length C) rfl rfl (owns_empty w) (HX.out.alloc _) (by simp) (by simp; omega) ?_; intro A1 C1 w1 ho hg hat _; (have HO : Hid (w1.ownsRow w.heap.size 5 1 (.slice A1 l.length C1) l.length (bv l)) := by simpa [Hid] using ho); (have HB : Hid (Below w.heap.size w w1) := ((Below.refl _ _).alloc (Nat.le_refl _) _).grown hg (by simp) (fun k hk => by simp [blk, Value.ownBlock] at hk; omega)); clear ho hg hat)
  go_ret
  exact ⟨_, rfl, HO.out, HB.out⟩
theorem rfWText_any {w : World} {base g : Nat} {q : Option Nat} {l : List UInt8} (h : WrF w base g q l) (s : List UInt8) (hb : s.length < 4611686018427387904) (hn : l.length + (textB s).length ≤ 140737488355328) :
    Calls Tryz.prog 74 #[.pointer (some ⟨g, 0, none⟩), .string (mkS s)] w fun e w' => e = .returned (.tuple #[]) ∧ ∃ q', WrF w' base g q' (l ++ textB s) ∧ Put g q w w' q' := by
  have HH : Hid (WrF w base g q l) := h
  have HN : Hid (l.length + (textB s).length ≤ 140737488355328) := hn
  have ht : (textB s).length = (numB s.length).length + s.length := by simp [textB]
  have HT : Hid ((textB s).length = (numB s.length).length + s.length) := ht
  clear ht
  have hms := mkS_size s
  clear h hn
  go_enter Tryz.func74, Tryz.ntmps74
  go_wp2_with fail
  refine (rfWInt_any HH.out (s.length : Int) (by omega) (by omega) (by have := HN.out; have := HT.out; omega)).mono ?_
  rintro e w2 ⟨rfl, q2, hr2, hp2⟩
  obtain ⟨v, h1, h2, rfl, hne, hb2⟩ := hr2
  have hc := cell_at h1 0
  rw [show (v :: ([] : List Value)).toArray[0]? = some v from rfl] at hc
  have H1 : Hid (w2.heap[g]? = some (.cells (v :: []).toArray 105 (0, 0))) := h1
  have hpos : 0 < (l ++ numB s.length).length := by have := digs_pos (zz s.length); simp [numB]; omega
  have hlen : (l ++ numB s.length).length + s.length ≤ 140737488355328 := by have := HN.out; have := HT.out; simp; omega
  clear h1
  go_wp2_with (at_builtin; refine wpList_apps rfl (.tmp 12) (.tmp 13) rfl v rfl rfl h2 hb2 hpos hlen ?_; intro A C w1 ho hg hat; (have hf1 : w1.frozen? ⟨g, 0, none⟩ = false := frozen_at ((hg.block g (heap_lt H1.out) (fun e => hne e.symm)).trans H1.out) 0); (have hc1 : w1.cell? ⟨g, 0, none⟩ = some v := by rw [cell_at ((hg.block g (heap_lt H1.out) (fun e => hne e.symm)).trans H1.out) 0]; rfl))
  go_end0
  have h3 := RowAt.turn H1.out hb2 hne hg ho hat
  simp only [List.length_append] at h3
  rw [List.append_assoc] at h3
  exact ⟨rfl, _, h3.1, hp2.trans h3.2⟩
theorem rfWBytes_any {w : World} {base g : Nat} {q : Option Nat} {l : List UInt8} (h : WrF w base g q l) {x : Value} {b : List UInt8} (hx : Bs w x b) (hb : b.length < 4611686018427387904) (hn : l.length + (textB b).length ≤ 140737488355328) :
    Calls Tryz.prog 75 #[.pointer (some ⟨g, 0, none⟩), x] w fun e w' => e = .returned (.tuple #[]) ∧ ∃ q', WrF w' base g q' (l ++ textB b) ∧ Put g q w w' q' := by
  have HH : Hid (WrF w base g q l) := h
  have hcv := convert_bytes hx
  obtain ⟨A, C, rfl⟩ := bs_form hx
  clear h hx
  go_enter Tryz.func75, Tryz.ntmps75
  go_wp2_with fail
  refine (rfWText_any HH.out b hb hn).mono ?_
  rintro e w2 ⟨rfl, q2, hr2, hp2⟩
  go_wp2
  go_end0
  exact ⟨rfl, q2, hr2, hp2⟩
end Go.Proofs.YtmfednhommbikaaGreatDoor
