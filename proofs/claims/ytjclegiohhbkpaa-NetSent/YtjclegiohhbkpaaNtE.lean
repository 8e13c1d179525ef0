/- The walks of Send, Twice and Clear. -/
import Derived.Test.YtjclegiohhbkpaaNtD
namespace Go.Proofs.Ytjclegiohhbkpaa
open Go.RowKit Go.MapKept

theorem Nx.cell {w : World} {n : Nat} {l : List Pk} {T : Nat → Prop} (h : Nx w n l T) : ∃ m, w.cell? ⟨n, 0, none⟩ = some (.map (some m)) := by
  obtain ⟨base, m, L, h1, h2, h3, h4, h5⟩ := h
  have := cell_at h2.cell 0
  simp at this
  exact ⟨m, this⟩
set_option maxRecDepth 100000 in
theorem send_no {w : World} {v : Value} (h : NoNet w v) (a b x : Value) : Calls Try.prog 17 #[v, a, b, x] w fun e w' => e = .returned (.bool false) ∧ Below w.heap.size w w' := by
  go_enter Try.func17, Try.ntmps17
  go_wp2_with fail
  refine (there_no h).mono ?_
  rintro e w1 ⟨rfl, rfl⟩
  go_wp2_with fail
  go_ret
  exact ⟨rfl, Below.refl _ _⟩
set_option maxRecDepth 100000 in
theorem send_any {w : World} {n : Nat} {l : List Pk} {T : Nat → Prop} (h : Nx w n l T) (k : Int × Int) {x : Value} {b : List UInt8} (hx : Bs w x b) :
    Calls Try.prog 17 #[.pointer (some ⟨n, 0, none⟩), .int .i64 k.1, .int .i64 k.2, x] w fun e w' => e = .returned (.bool (sendOk l k b)) ∧ Nx w' n (if sendOk l k b then l ++ [(k, b)] else l) T ∧ Kp T w w' := by
  obtain ⟨m, hc0⟩ := h.cell
  obtain ⟨X, c, rfl⟩ := bs_form hx
  by_cases hl : b.length ≤ 1048576
  · have hput := put_any h k hx hl
    simp only [keyV] at hput
    clear hx h
    generalize (if sendOk l k b = true then l ++ [(k, b)] else l) = l' at hput ⊢
    generalize sendOk l k b = r at hput ⊢
    go_enter Try.func17, Try.ntmps17
    go_wp2_with fail
    refine (there_any hc0).mono ?_
    rintro e w1 ⟨rfl, rfl⟩
    go_wp2_with fail
    refine hput.mono ?_
    rintro e w2 ⟨rfl, hN2, hK2⟩
    clear hput
    go_wp2_with fail
    go_ret
    exact ⟨rfl, hN2, hK2⟩
  · have hs : sendOk l k b = false := by simp [sendOk, hl]
    rw [hs]
    have HH : Hid (Nx w n l T) := h
    clear hx hs h
    go_enter Try.func17, Try.ntmps17
    go_wp2_with fail
    refine (there_any hc0).mono ?_
    rintro e w1 ⟨rfl, rfl⟩
    go_wp2_with fail
    go_ret
    exact ⟨rfl, by simpa using HH.out, Chg.refl _ _⟩
/- The packet at a place. -/
def peek (l : List Pk) (k : Int × Int) (i : Int) : Option (List UInt8) := if 0 ≤ i then (bagOf l k)[i.toNat]? else none
theorem peek_some {l : List Pk} {k : Int × Int} {i : Int} {b : List UInt8} (h : peek l k i = some b) : 0 ≤ i ∧ ∃ hi : i.toNat < (bagOf l k).length, (bagOf l k)[i.toNat]'hi = b := by
  unfold peek at h
  split at h
  · exact ⟨by assumption, List.getElem?_eq_some_iff.1 h⟩
  · cases h
theorem peek_none {l : List Pk} {k : Int × Int} {i : Int} (h : peek l k i = none) : ¬ (0 ≤ i ∧ i < (bagOf l k).length) := by
  rintro ⟨h1, h2⟩
  unfold peek at h
  rw [if_pos h1, List.getElem?_eq_none_iff] at h
  omega
theorem find_none {w : World} {n : Nat} {l : List Pk} {T : Nat → Prop} (h : Nx w n l T) (k : Int × Int) (i : Int) (hp : peek l k i = none) :
    Calls Try.prog 33 #[.pointer (some ⟨n, 0, none⟩), keyV k, .int .i64 i] w fun e w' => e = .returned (.tuple #[.slice none 0 0, .bool false]) ∧ Below w.heap.size w w' := by
  obtain ⟨base, m, L, h1, h2, h3, h4, h5⟩ := h
  exact find_out h2 h3 k i (peek_none hp)
/- A packet that is there, in its bag. -/
theorem peek_at {L : List Bg} {l : List Pk} (hf : Fit L l) {k : Int × Int} {i : Int} {b : List UInt8} (hp : peek l k i = some b) : ∃ q, look k L = some q ∧ ∃ hi : i.toNat < q.ps.length, (q.ps[i.toNat]'hi).1 = b ∧ i = (i.toNat : Int) := by
  obtain ⟨h0, hi, hb⟩ := peek_some hp
  cases hq : look k L with
  | none =>
    have h : ¬ i.toNat < (bagOf l k).length := by rw [hf.none hq]; simp
    exact absurd hi h
  | some q =>
    have he := hf.at hq
    have hi' : i.toNat < q.ps.length := by rw [← he, List.length_map] at hi; exact hi
    refine ⟨q, rfl, hi', ?_, by omega⟩
    rw [← hb]
    have : (q.ps.map Prod.fst)[i.toNat]? = (bagOf l k)[i.toNat]? := by rw [he]
    rw [List.getElem?_map, List.getElem?_eq_getElem hi', List.getElem?_eq_getElem hi] at this
    simpa using this
theorem find_some {w : World} {n : Nat} {l : List Pk} {T : Nat → Prop} (h : Nx w n l T) (k : Int × Int) (i : Int) {b : List UInt8} (hp : peek l k i = some b) :
    Calls Try.prog 33 #[.pointer (some ⟨n, 0, none⟩), keyV k, .int .i64 i] w fun e w' => ∃ A C, e = .returned (.tuple #[.slice A b.length C, .bool true]) ∧ Bs w' (.slice A b.length C) b ∧ b.length ≤ 1048576 ∧ Below w.heap.size w w' := by
  have hbl : b.length ≤ 1048576 := by
    obtain ⟨_, hi, hb⟩ := peek_some hp
    exact (h.bag k).2 b (by rw [← hb]; exact List.getElem_mem hi)
  obtain ⟨base, m, L, h1, h2, h3, h4, h5⟩ := h
  obtain ⟨q, hq, hi, hb, he⟩ := peek_at h3 hp
  have ho := h2.rows q (look_some hq).1 _ (List.getElem_mem hi)
  have hc := find_in h2 hq i.toNat hi
  rw [← he] at hc
  rw [hb] at ho
  obtain ⟨A, C, hv⟩ := owns_formT ho
  rw [hv] at hc ho
  refine hc.mono ?_
  rintro e w' ⟨rfl, hB⟩
  exact ⟨A, C, rfl, (Bs.of_owns ho).keep (Chg.of_below hB) (fun _ _ => id), hbl, hB⟩
def twiceR (l : List Pk) (k : Int × Int) (i : Int) : Bool × List Pk := match peek l k i with
  | none => (false, l)
  | some b => if (bagOf l k).length < 32 then (true, l ++ [(k, b)]) else (false, l)
set_option maxRecDepth 100000 in
theorem twice_no {w : World} {v : Value} (h : NoNet w v) (k : Int × Int) (i : Value) : Calls Try.prog 22 #[v, .int .i64 k.1, .int .i64 k.2, i] w fun e w' => e = .returned (.bool false) ∧ Below w.heap.size w w' := by
  have hf := find_no (h.alloc (kB k)) k i
  simp only [keyV] at hf
  go_enter Try.func22, Try.ntmps22
  go_wp2_with fail
  refine hf.mono ?_
  rintro e w1 ⟨rfl, hB⟩
  go_wp2_with fail
  go_ret
  exact ⟨rfl, (below1 _ _).trans (hB.mono (by simp))⟩
theorem box_cells {w w1 : World} (k : Int × Int) (hB : Below (w.alloc (kB k)).heap.size (w.alloc (kB k)) w1) : w1.cell? ⟨w.heap.size, 0, none⟩ = some (.int .i64 k.1) ∧ w1.cell? ⟨w.heap.size, 1, none⟩ = some (.int .i64 k.2) := by
  constructor
  · rw [hB.cell (p := ⟨w.heap.size, 0, none⟩) (by simp)]; simp [kB]
  · rw [hB.cell (p := ⟨w.heap.size, 1, none⟩) (by simp)]; simp [kB]
set_option maxRecDepth 100000 in
theorem twice_any {w : World} {n : Nat} {l : List Pk} {T : Nat → Prop} (h : Nx w n l T) (k : Int × Int) (i : Int) :
    Calls Try.prog 22 #[.pointer (some ⟨n, 0, none⟩), .int .i64 k.1, .int .i64 k.2, .int .i64 i] w fun e w' => e = .returned (.bool (twiceR l k i).1) ∧ Nx w' n (twiceR l k i).2 T ∧ Kp T w w' := by
  unfold twiceR
  cases hp : peek l k i with
  | none =>
    have hf := find_none (h.alloc (kB k)) k i hp
    simp only [keyV] at hf
    show Calls Try.prog 22 _ w fun e w' => e = .returned (.bool false) ∧ Nx w' n l T ∧ Kp T w w'
    go_enter Try.func22, Try.ntmps22
    go_wp2_with fail
    refine hf.mono ?_
    rintro e w1 ⟨rfl, hB⟩
    go_wp2_with fail
    go_ret
    have hB' := (below1 w (kB k)).trans (hB.mono (by simp))
    exact ⟨rfl, h.below hB', Kp.of_below hB'⟩
  | some b =>
    have hf := find_some (h.alloc (kB k)) k i hp
    simp only [keyV] at hf
    have HP : Hid (∀ w1 : World, Below (w.alloc (kB k)).heap.size (w.alloc (kB k)) w1 → Nx w1 n l T ∧ Kp T w w1) := fun w1 hB => by
      have hB' := (below1 w (kB k)).trans (hB.mono (by simp))
      exact ⟨h.below hB', Kp.of_below hB'⟩
    have HR : Hid (∀ (_ : b.length ≤ 1048576), (if (bagOf l k).length < 32 then (true, l ++ [(k, b)]) else (false, l)) = (sendOk l k b, if sendOk l k b = true then l ++ [(k, b)] else l)) := by
      intro hb
      by_cases hi : (bagOf l k).length < 32 <;> simp [sendOk, hi, hb]
    show Calls Try.prog 22 _ w fun e w' => e = .returned (.bool (if (bagOf l k).length < 32 then (true, l ++ [(k, b)]) else (false, l)).1) ∧ Nx w' n (if (bagOf l k).length < 32 then (true, l ++ [(k, b)]) else (false, l)).2 T ∧ Kp T w w'
    have hbl : b.length ≤ 1048576 := by
      obtain ⟨_, hi, hb⟩ := peek_some hp
      exact (h.bag k).2 b (by rw [← hb]; exact List.getElem_mem hi)
    rw [HR.out hbl]
    simp only
    have HQ : Hid (∀ {w1 : World} {A : Option Addr} {C : Nat}, Below (w.alloc (kB k)).heap.size (w.alloc (kB k)) w1 → Bs w1 (.slice A b.length C) b → Calls Try.prog 32 #[.pointer (some ⟨n, 0, none⟩), .agg #[.int .i64 k.1, .int .i64 k.2], .slice A b.length C] w1 fun e w' => e = .returned (.bool (sendOk l k b)) ∧ Nx w' n (if sendOk l k b then l ++ [(k, b)] else l) T ∧ Kp T w w') := by
      intro w1 A C hB hX
      obtain ⟨g1, g2⟩ := HP.out w1 hB
      refine (put_any g1 k hX hbl).mono ?_
      rintro e w2 ⟨rfl, g3, g4⟩
      exact ⟨rfl, g3, g2.trans g4⟩
    generalize (if sendOk l k b = true then l ++ [(k, b)] else l) = l' at HQ ⊢
    generalize sendOk l k b = r at HQ ⊢
    clear HR hp h
    go_enter Try.func22, Try.ntmps22
    go_wp2_with fail
    refine hf.mono ?_
    rintro e w1 ⟨A, C, rfl, hX, _, hB⟩
    obtain ⟨x0, x1⟩ := box_cells k hB
    have hput := HQ.out hB hX
    clear hX hB hf
    go_wp2_with fail
    refine hput.mono ?_
    rintro e w2 ⟨rfl, g3, g4⟩
    clear hput
    go_wp2_with fail
    go_ret
    exact ⟨rfl, g3, g4⟩
set_option maxRecDepth 100000 in
theorem clear_no {w : World} {v : Value} (h : NoNet w v) (a b : Value) : Calls Try.prog 23 #[v, a, b] w fun e w' => e = .returned (.tuple #[]) ∧ Below w.heap.size w w' := by
  go_enter Try.func23, Try.ntmps23
  go_wp2_with fail
  refine (there_no h).mono ?_
  rintro e w1 ⟨rfl, rfl⟩
  go_wp2_with fail
  exact bodyPost_ret (results_none Try.results23 _ _ _) rfl ⟨rfl, Below.refl _ _⟩
def clearP (l : List Pk) (a b : Int) : List Pk := l.filter fun p => !(decide (p.1 = (a, b)) || decide (p.1 = (b, a)))
set_option maxRecDepth 100000 in
theorem clear_any {w : World} {n : Nat} {l : List Pk} {T : Nat → Prop} (h : Nx w n l T) (a b : Int) :
    Calls Try.prog 23 #[.pointer (some ⟨n, 0, none⟩), .int .i64 a, .int .i64 b] w fun e w' => e = .returned (.tuple #[]) ∧ Nx w' n (clearP l a b) T ∧ Kp T w w' := by
  obtain ⟨base, m, L, h1, h2, h3, h4, h5⟩ := h
  have hc0 := cell_at h2.cell 0
  simp at hc0
  go_enter Try.func23, Try.ntmps23
  go_wp2_with fail
  refine (there_any hc0).mono ?_
  rintro e w1 ⟨rfl, rfl⟩
  have HH : Hid (Nk w1 base n m L) := h2
  clear h2
  go_wp2_with (first
    | (at_delete; refine wpList_del rfl _ _ rfl (a, b) rfl rfl HH.out.map ?_; intro w4 hm4 hc4 hs4; have hD4 := HH.out.del (T := Non) (a, b) (Chg.refl _ _) (fun g _ e => e.elim) hm4 hc4; have hz4 := cell_at hD4.cell 0; simp at hz4)
    | (at_delete; refine wpList_del rfl _ _ rfl (b, a) rfl rfl hm4 ?_; intro w5 hm5 hc5 hs5)
    | fail)
  go_end0
  have hD5 := hD4.del (T := Non) (b, a) (Chg.refl _ _) (fun g _ e => e.elim) hm5 hc5
  have hN := HH.out.map.names
  have hN4 := hD4.map.names
  refine ⟨rfl, Nx.of_next h1 h4 h5 hD5 (fun k => ?_) ((hc4.trans hc5).weak fun g _ e => .inr (.inl e)) fun g hg => .inl ?_⟩
  · unfold bytesAt clearP
    rw [look_del _ _ _ hN4, look_del _ _ _ hN, bag_clear]
    by_cases e1 : (b, a) = k
    · rw [if_pos e1, if_pos (.inr e1.symm)]; rfl
    · rw [if_neg e1]
      by_cases e2 : (a, b) = k
      · rw [if_pos e2, if_pos (.inl e2.symm)]; rfl
      · rw [if_neg e2, if_neg (fun e => e.elim (fun e => e2 e.symm) (fun e => e1 e.symm))]
        exact h3 k
  · rcases hg with e | e | ⟨p, hp, e⟩ | ⟨p, hp, x, hx, e⟩
    · exact .inl e
    · exact .inr (.inl e)
    · exact .inr (.inr (.inl ⟨p, (del_mem' hN (del_mem' hN4 hp).1).1, e⟩))
    · exact .inr (.inr (.inr ⟨p, (del_mem' hN (del_mem' hN4 hp).1).1, x, hx, e⟩))
end Go.Proofs.Ytjclegiohhbkpaa
