/- The walks of package path's own iterator, of what is a part, of Check and of the last part of a path. -/
import Derived.RangeFuncNested
import Derived.RangeFuncBound
import Derived.RangeFuncCalls
import Derived.RangeFuncLeaves
import Derived.Shelf.Abstract
import Derived.Shelf.RegionOpen
import Derived.WalkKit
import Derived.OwnWalkIn
import Derived.TacticsInMore
import Derived.LoopNIn
import Derived.LoopIn
import Derived.Laws.RangeAny
import Derived.Test.YtkbmbnfpadllmaaDoorShelf
import Derived.Test.YtkbmbnfpadllmaaDoorPathM
namespace Go.Proofs.YtkbmbnfpadllmaaDoor.PA
open Go.RowKit Go.Shelf
attribute [local go_sem] Oper.semAt_some

/- What the variables of the library hold: a number, and the table of the powers of ten. -/
def kTab (j : Nat) : Int := [0, 2071, 3089, 2059, 32, 260, 512, 128, 256, 64].getD j 0
structure Laid (w : World) : Prop where
  one : ∃ m, w.cell? ⟨1, 0, none⟩ = some (.int .i64 m)
  tab : ∀ j, j < 10 → w.cell? ⟨0, j, none⟩ = some (.int .u16 (kTab j))
theorem celllt {W : World} {a : Addr} {v : Value} (h : W.cell? a = some v) : a.block < W.heap.size := by
  obtain ⟨o, ho, _⟩ := cells_of_cell h
  exact (Array.getElem?_eq_some_iff.1 ho).1
theorem Laid.gt {w : World} (h : Laid w) : 1 < w.heap.size ∧ 0 < w.heap.size := ⟨let ⟨_, hm⟩ := h.one; celllt hm, celllt (h.tab 0 (by omega))⟩
/- A world that has grown from w0 and holds what the library's variables held. -/
structure Kept (w0 w : World) : Prop where
  laid : Laid w
  below : Below w0.heap.size w0 w
theorem Laid.from {n₀ : Nat} (h1 : 1 < n₀ ∧ 0 < n₀) {w w' : World} (h : Laid w) (hB : Below n₀ w w') : Laid w' := by
  obtain ⟨m, hm⟩ := h.one
  exact ⟨⟨m, by rw [hB.cell (p := ⟨1, 0, none⟩) h1.1]; exact hm⟩, fun j hj => by rw [hB.cell (p := ⟨0, j, none⟩) h1.2]; exact h.tab j hj⟩
theorem Laid.below {w w' : World} (h : Laid w) (hB : Below w.heap.size w w') : Laid w' := h.from h.gt hB
theorem Kept.go {w0 w w' : World} (h : Kept w0 w) (hB : Below w.heap.size w w') : Kept w0 w' := ⟨h.laid.below hB, h.below.trans (hB.mono h.below.size)⟩
theorem below_drewN {B : Nat} {a w : World} (h : Below B a w) (n : Nat) : Below B a (w.drewN n) := ⟨h.os, h.tape, h.output, by cases n <;> exact h.size, by cases n <;> exact h.block⟩

theorem cut_any (t : List UInt8) (ht : t.length ≤ 200) (w : World) (h : Laid w) :
    Calls Tryd.prog 41 #[.string (mkS t), .string ⟨#[47]⟩] w fun e w' => e = .returned (.tuple #[.string (mkS (Lib.cut t [47]).1), .string (mkS (Lib.cut t [47]).2.1), .bool (Lib.cut t [47]).2.2]) ∧ ∃ n, w' = w.drewN n := by
  obtain ⟨m, hm⟩ := h.one
  refine (Tryd.strings_Cut (mkS t) ⟨#[47]⟩ m w (by rw [mkS_size]; omega) hm).mono ?_
  rintro e w' ⟨rfl, n, rfl⟩
  refine ⟨?_, n, rfl⟩
  rw [mkS_list]; rfl
theorem grown_drewN (w : World) (n : Nat) : w.grownBy (w.drewN n) none := ⟨rfl, rfl, rfl, Nat.le_refl _, fun _ _ _ => rfl⟩
theorem Laid.drewN {w : World} (h : Laid w) (n : Nat) : Laid (w.drewN n) := ⟨h.one, h.tab⟩
/- The rounds of a range over a text. -/
theorem mkS_toList (t : List UInt8) : (mkS t).toList = t := by
  rw [ByteArray.toList_eq]; exact mkS_list t
theorem mkS_get (t : List UInt8) (i : Nat) (h : i < t.length) (hs : i < (mkS t).size) : (mkS t)[i]'hs = t[i]'h := by
  simp [mkS, ByteArray.getElem_eq_getElem_data]
theorem okRune (t : List UInt8) (i : Nat) (h : i < t.length) :
    (okByte (t[i]'h) = true ∧ ∃ c : Nat, (Utf8.decode (mkS t) i) = (c, 1) ∧ 33 ≤ c ∧ c ≤ 126 ∧ c ≠ 47) ∨
    (okByte (t[i]'h) = false ∧ ∃ c k : Nat, (Utf8.decode (mkS t) i) = (c, k) ∧ (c < 33 ∨ (33 ≤ c ∧ 126 < c) ∨ c = 47)) := by
  have h' : i < (mkS t).size := by rw [mkS_size]; exact h
  have hg := mkS_get t i h h'
  by_cases ha : (t[i]'h).toNat < 128
  · have hd := decode_ascii (mkS t) i h' (by rw [hg]; exact ha)
    rw [hg] at hd
    have e47 : (t[i]'h = 47) ↔ (t[i]'h).toNat = 47 := by
      constructor
      · intro e; rw [e]; rfl
      · intro e; exact UInt8.toNat.inj e
    cases hk : okByte (t[i]'h) with
    | true =>
      left
      simp only [okByte, Bool.and_eq_true, decide_eq_true_eq, ne_eq, e47] at hk
      exact ⟨rfl, _, hd, hk.1.1, hk.1.2, hk.2⟩
    | false =>
      right
      refine ⟨rfl, _, _, hd, ?_⟩
      simp only [okByte, Bool.and_eq_false_iff, decide_eq_false_iff_not, ne_eq, e47] at hk
      omega
  · have hd := decode_high (mkS t) i h' (by rw [hg]; omega)
    right
    obtain ⟨c, k, hck⟩ : ∃ c k, Utf8.decode (mkS t) i = (c, k) := ⟨_, _, rfl⟩
    rw [hck] at hd
    refine ⟨?_, c, k, hck, by have := hd.1; dsimp only at this; omega⟩
    simp only [okByte, Bool.and_eq_false_iff, decide_eq_false_iff_not]
    omega

theorem all_true_of_prefix (t : List UInt8) (h : ∀ j (hj : j < t.length), okByte (t[j]'hj) = true) : t.all okByte = true := by
  rw [List.all_eq_true]
  intro x hx
  obtain ⟨j, hj, rfl⟩ := List.getElem_of_mem hx
  exact h j hj
theorem all_false_at (t : List UInt8) (j : Nat) (hj : j < t.length) (h : okByte (t[j]'hj) = false) : t.all okByte = false := by
  rw [List.all_eq_false]
  exact ⟨_, List.getElem_mem hj, by simp [h]⟩
theorem isPart_tests (t : List UInt8) (ht : t.all okByte = true) : isPart t = (!(mkS t).toList.isEmpty && !(mkS t).toList == [46] && !(mkS t).toList == [46, 46]) := by
  rw [Bool.eq_iff_iff, mkS_toList]
  simp [isPart, ht]

set_option maxRecDepth 100000 in
theorem isPart_any (t : List UInt8) (w0 w : World) (h : Kept w0 w) :
    Calls Tryd.prog 27 #[.string (mkS t)] w fun e w' => e = .returned (.bool (isPart t)) ∧ Kept w0 w' := by
  go_enter Tryd.func27, Tryd.ntmps27
  go_wp2
  go_loopw [4] (fun _ wr => ∃ pos, wr = w.iter (mkS t) pos ∧ pos ≤ t.length ∧ ∀ j (hj : j < t.length), j < pos → okByte (t[j]'hj) = true)
    (fun _ wr => t.length - wr.iterPos w.heap.size)
  case atStart => exact ⟨0, rfl, by omega, fun j _ h => by omega⟩
  case round =>
    obtain ⟨pos, rfl, hle, hok⟩ := hrel
    by_cases hp : pos < t.length
    · have hp' : pos < (mkS t).size := by rw [mkS_size]; exact hp
      have hnx : ∀ ty, (Instr.next (.pointer (some ⟨w.heap.size, 0, none⟩)) true ty).run Tryd.prog (w.iter (mkS t) pos) = _ := fun ty => run_next_any w (mkS t) pos ty hp'
      rcases okRune t pos hp with ⟨hb, c, hd, h1, h2, h3⟩ | ⟨hb, c, k, hd, h1⟩
      · rw [hd] at hnx
        dsimp only at hnx
        have t1 : ¬ ((c : Int) < 33) := by omega
        have t2 : ¬ ((126 : Int) < c) := by omega
        have t3 : ¬ ((c : Int) = 47) := by omega
        go_wp2
        go_roundw
        case rel =>
          refine ⟨pos + 1, rfl, by omega, fun j hj hlt => ?_⟩
          rcases Nat.lt_succ_iff_lt_or_eq.1 hlt with e | e
          · exact hok j hj e
          · subst e; exact hb
        case measure =>
          simp; omega
      · rw [hd] at hnx
        dsimp only at hnx
        have hf : isPart t = false := by rw [isPart, all_false_at t pos hp hb]; rfl
        rcases h1 with h1 | ⟨h1, h2⟩ | h1
        · have t1 : ((c : Int) < 33) := by omega
          go_wp2
          go_ret
          exact ⟨by (try rw [hf]); rfl, h.go ⟨rfl, rfl, rfl, by simp [World.iter], fun b hb => Below.heap_alloc w _ b hb⟩⟩
        · have t1 : ¬ ((c : Int) < 33) := by omega
          have t2 : ((126 : Int) < c) := by omega
          go_wp2
          go_ret
          exact ⟨by (try rw [hf]); rfl, h.go ⟨rfl, rfl, rfl, by simp [World.iter], fun b hb => Below.heap_alloc w _ b hb⟩⟩
        · subst h1
          go_wp2
          go_ret
          exact ⟨by (try rw [hf]); rfl, h.go ⟨rfl, rfl, rfl, by simp [World.iter], fun b hb => Below.heap_alloc w _ b hb⟩⟩
    · have hp' : ¬ pos < (mkS t).size := by rw [mkS_size]; exact hp
      have hnx : ∀ ty, (Instr.next (.pointer (some ⟨w.heap.size, 0, none⟩)) true ty).run Tryd.prog (w.iter (mkS t) pos) = _ := fun ty => run_next_end w (mkS t) pos ty hp'
      have ht : t.all okByte = true := all_true_of_prefix t fun j hj => hok j hj (by omega)
      have hK : Kept w0 (w.iter (mkS t) pos) := h.go ⟨rfl, rfl, rfl, by simp [World.iter], fun b hb => Below.heap_alloc w _ b hb⟩
      go_wp2
      · rename_i e
        rw [mkS_toList] at e
        have hf : isPart t = false := by rw [e]; rfl
        go_ret
        exact ⟨by (try rw [hf]); rfl, hK⟩
      · rename_i e0 e
        rw [mkS_toList] at e
        have hf : isPart t = false := by rw [e]; rfl
        go_ret
        exact ⟨by (try rw [hf]); rfl, hK⟩
      · rename_i e0 e1
        rw [mkS_toList] at e0 e1
        have hf := isPart_tests t ht
        go_ret
        exact ⟨by (try rw [hf]); rfl, hK⟩

/- The iterator: what stands behind each slash. -/
def measP : Value → Value → Nat
  | .string s, .bool true => s.size + 1
  | _, _ => 0
set_option maxRecDepth 100000 in
theorem parts1_stops (n : Nat) (Bn n₀ : Nat) (p : List UInt8) (hl : p.length ≤ 200) (hh : p.head? = some 47) (w : World) (hk : Laid w) (hB : Bn < w.heap.size) (hw0 : 1 < n₀ ∧ 0 < n₀) (hc : w.cell? ⟨Bn, 0, none⟩ = some (.string (mkS p))) :
    SeqStopsK Fence.wide n Tryd.prog 40 #[.pointer (some ⟨Bn, 0, none⟩)] (fun x : List UInt8 => #[.string (mkS x)]) (Below n₀) (fun xs => xs = parts p) (fun pre => pre <+: parts p) (parts p).length w := fun l J Jx W hW hJ hJx hY h0 => by
  have hkW : Laid W := hk.below hW
  have hcW : W.cell? ⟨Bn, 0, none⟩ = some (.string (mkS p)) := by rw [hW.cell (p := ⟨Bn, 0, none⟩) hB]; exact hc
  obtain ⟨t, rfl⟩ : ∃ t, p = 47 :: t := by
    cases p with
    | nil => simp at hh
    | cons c t => simp at hh; subst hh; exact ⟨t, rfl⟩
  refine callsIn_of_wp Tryd.func40 rfl trivial ?_ rfl
  simp only [Tryd.ntmps40, List.size_toArray, List.length_cons, List.length_nil, Nat.reduceAdd, Nat.reduceSub, Array.replicate_succ, Array.replicate_zero, List.push_toArray, List.append_toArray, List.nil_append, List.cons_append]
  have hsz : (mkS (47 :: t)).size = t.length + 1 := by rw [mkS_size]; rfl
  have hex : (mkS (47 :: t)).extract 1 (t.length + 1) = mkS t := by rw [mkS_extract]; simp
  gi_wp2
  gi_region
  all_goals gi_wp2
  gi_loopw [3, 4] (fun r m wr => ∃ (pre : List (List UInt8)) (rest : List UInt8) (b : Bool), r = .string (mkS rest) ∧ m = .bool b ∧ parts (47 :: t) = pre ++ (if b = true then splits rest else []) ∧ rest.length ≤ t.length ∧ J pre wr ∧ Laid wr)
    (fun r m _ => measP r m)
  case atStart =>
    refine ⟨[], t, _, rfl, rfl, ?_, Nat.le_refl _, hJ [] W _ none h0 (grown_drewN W 1) (fun r e => by cases e), hkW.drewN 1⟩
    rw [mkS_toList]
    cases t with
    | nil => rfl
    | cons c t => simp [parts, tailParts]
  case round =>
    obtain ⟨pre, rest, b, rfl, rfl, hx, hle, hJs, hks⟩ := hrel
    cases b with
    | false =>
      gi_wp2
      go_end0
      exact ⟨⟨_, rfl⟩, .inl ⟨pre, by simp [hx], hJs⟩⟩
    | true =>
      simp only [if_true] at hx
      have hY' : ∀ k, ∃ fn tmps assign body, _ := fun k => hY pre (Lib.cut rest [47]).1 (wr.drewN k) (hJ pre wr _ none hJs (grown_drewN wr k) (fun r e => by cases e)) (by
        rw [hx]
        rcases cut_splits rest with ⟨_, q, _⟩ | ⟨_, q, _⟩ <;> rw [q] <;> simp)
      have hcut := cut_any rest (by simp at hl; omega) wr hks
      gi_wp2_with fail
      refine ⟨trivial, (fun h => nomatch h), (callsIn_wide.2 hcut).mono ?_⟩
      rintro e w' ⟨rfl, k, rfl⟩
      have hYk := hY' k
      clear hY' hcut
      obtain ⟨fn, tmps, assign, body, hy, hR⟩ := hYk
      gi_wp2
      refine ⟨(fun h => nomatch h), hR.mono ?_⟩
      rintro e W3 (⟨rfl, hJ3, hk3⟩ | ⟨rfl, hJx3⟩)
      · gi_wp2
        go_roundw
        case rel =>
          refine ⟨_, _, _, rfl, rfl, ?_, ?_, hJ3, (hks.drewN _).from hw0 hk3⟩
          · rcases cut_splits rest with ⟨q1, q, _⟩ | ⟨q1, q, _⟩ <;> rw [hx, q1, q] <;> simp
          · rcases cut_splits rest with ⟨q1, q, q2⟩ | ⟨q1, q, q2⟩
            · omega
            · rw [q2]; simp
        case measure =>
          rcases cut_splits rest with ⟨q1, q, q2⟩ | ⟨q1, q, _⟩ <;> rw [q1] <;> simp [measP, mkS_size]
          omega
      · gi_wp2
        refine bodyPost_ret (results_none rfl _ _ _) rfl ?_
        refine ⟨⟨_, rfl⟩, .inr ⟨_, ?_, hJx3⟩⟩
        rcases cut_splits rest with ⟨q1, q, _⟩ | ⟨q1, q, _⟩ <;> rw [hx, q]
        · exact ⟨splits (Lib.cut rest [47]).2.1, by simp⟩
        · exact ⟨[], by simp⟩

theorem hasPrefix_any (s p : List UInt8) (b : Bool) (h : p.isPrefixOf s = b) (w : World) :
    Calls Tryd.prog 25 #[.string (mkS s), .string (mkS p)] w fun e w' => e = .returned (.bool b) ∧ w' = w := by
  refine (Tryd.strings_HasPrefix (mkS s) (mkS p) w).mono ?_
  rintro e w' ⟨rfl, rfl⟩
  exact ⟨by rw [mkS_list, mkS_list, Lib.hasPrefix, h], rfl⟩
theorem newCell (w : World) (v : Value) (t : TypeId) : (w.alloc (.cells #[v] t)).cell? ⟨w.heap.size, 0, none⟩ = some v ∧ (w.alloc (.cells #[v] t)).frozen? ⟨w.heap.size, 0, none⟩ = false := by
  simp [go_sem]
theorem cell_alloc_l {W : World} {a : Addr} {v : Value} (o : Obj) (h : W.cell? a = some v) : (W.alloc o).cell? a = some v := cell_kept h (World.grownBy_alloc W o none) (fun r e => by cases e)
theorem frozen_alloc_l {W : World} {a : Addr} {v : Value} (o : Obj) (h : W.cell? a = some v) (hf : W.frozen? a = false) : (W.alloc o).frozen? a = false := (frozen_kept h (World.grownBy_alloc W o none) (fun r e => by cases e)).trans hf
theorem cell_lt {W : World} {a : Addr} {v : Value} (h : W.cell? a = some v) : a.block < W.heap.size := by
  obtain ⟨o, ho, _⟩ := cells_of_cell h
  exact (Array.getElem?_eq_some_iff.1 ho).1
theorem keepsOthers_below {W W' : World} (h : Below W.heap.size W W') : KeepsOthers W W' := ⟨h.size, fun k o hk _ => by rw [h.block k (Array.getElem?_eq_some_iff.1 hk).1]; exact hk⟩
theorem laid_own {β : Type} : Own (fun (_ : β) W => Laid W) := fun _ _ _ _ hs hg hr => ⟨let ⟨m, hm⟩ := hs.one; ⟨m, cell_kept hm hg hr⟩, fun j hj => cell_kept (hs.tab j hj) hg hr⟩
/- What is a part, told in a round of a loop that keeps a cell of its own. -/
theorem isPart_at (t : List UInt8) (b : Bool) (hb : isPart t = b) (W : World) (hL : Laid W) (A : Addr) (v : Value) (hc : W.cell? A = some v) (hf : W.frozen? A = false) :
    Calls Tryd.prog 27 #[.string (mkS t)] W fun e w' => e = .returned (.bool b) ∧ Below W.heap.size W w' ∧ w'.cell? A = some v ∧ w'.frozen? A = false := by
  refine (isPart_any t W W ⟨hL, Below.refl _ _⟩).mono ?_
  rintro e w' ⟨rfl, hk⟩
  exact ⟨by rw [hb], hk.below, by rw [hk.below.cell (cell_lt hc)]; exact hc, by rw [hk.below.frozen (cell_lt hc)]; exact hf⟩
theorem newBelow (w : World) (o : Obj) : Below w.heap.size w (w.alloc o) := (Below.refl _ w).alloc (Nat.le_refl _) _

set_option maxRecDepth 100000 in
theorem parts_any (p : List UInt8) (w : World) :
    Calls Tryd.prog 26 #[.string (mkS p)] w fun e w' => e = .returned (.func (.func 40) #[] #[.pointer (some ⟨w.heap.size, 0, none⟩)]) ∧ w' = w.alloc (.cells #[.string (mkS p)] 9) := by
  go_enter Tryd.func26, Tryd.ntmps26
  go_wp2
  go_ret
  exact ⟨rfl, rfl⟩

set_option maxRecDepth 100000 in
set_option maxHeartbeats 2000000 in
theorem check_any (p : List UInt8) (w : World) (hk : Laid w) :
    Calls Tryd.prog 12 #[.string (mkS p)] w fun e w' => e = .returned (.bool (right p)) ∧ Below w.heap.size w w' := by
  have hsz := mkS_size p
  by_cases hl : p.length ≤ 200
  · cases hh : ([47] : List UInt8).isPrefixOf p with
    | false =>
      have hf : right p = false := by
        cases p with
        | nil => rfl
        | cons c t =>
          have : c ≠ 47 := by rintro rfl; simp at hh
          simp [right, this]
      have t1 : ¬ (200 : Int) < ((p.length : Nat) : Int) := by omega
      go_enter Tryd.func12, Tryd.ntmps12
      go_wp2_with (go_at_call 25; refine (hasPrefix_any _ [47] _ hh _).mono ?_; rintro e w' ⟨rfl, rfl⟩)
      have hc := newCell w (.bool false) 4
      refine bodyPost_ret (v := .bool false) (by simp [results, Tryd.f12, go_sem, hc.1]) rfl ?_
      exact ⟨by rw [hf], newBelow w _⟩
    | true =>
      have t1 : ¬ (200 : Int) < ((p.length : Nat) : Int) := by omega
      refine (callsIn_wide (n := 3)).1 ?_
      refine callsIn_of_wp_marks Tryd.func12 rfl trivial ?_ rfl
      simp only [Tryd.ntmps12, List.size_toArray, List.length_cons, List.length_nil, Nat.reduceAdd, Nat.reduceSub, Array.replicate_succ, Array.replicate_zero, List.push_toArray, List.append_toArray, List.nil_append, List.cons_append]
      gi_wp2_with (refine ⟨trivial, ?_⟩; first | (gi_at_call 25; refine (callsIn_wide.2 (hasPrefix_any _ [47] _ hh _)).mono ?_; rintro e w' ⟨rfl, rfl⟩) | (gi_at_call 26; refine (callsIn_wide.2 (parts_any _ _)).mono ?_; rintro e w' ⟨rfl, rfl⟩))
      obtain ⟨W0, hW0⟩ : ∃ W0, (w.alloc (.cells #[.bool false] 4)).alloc (.cells #[.string (mkS p)] 9) = W0 := ⟨_, rfl⟩
      have hc1 : W0.cell? ⟨w.heap.size, 0, none⟩ = some (.bool false) := by rw [← hW0]; exact cell_alloc_l _ (newCell w _ _).1
      have hf1 : W0.frozen? ⟨w.heap.size, 0, none⟩ = false := by rw [← hW0]; exact frozen_alloc_l _ (newCell w _ _).1 (newCell w _ _).2
      have hc2 : W0.cell? ⟨w.heap.size + 1, 0, none⟩ = some (.string (mkS p)) := by rw [← hW0]; have := (newCell (w.alloc (.cells #[.bool false] 4)) (.string (mkS p)) 9).1; rwa [World.size_alloc] at this
      have hB0 : Below w.heap.size w W0 := by rw [← hW0]; exact (newBelow w _).alloc (by simp) _
      have hs0 : W0.heap.size = w.heap.size + 2 := by rw [← hW0]; simp
      have hh' : p.head? = some 47 := by
        cases p with
        | nil => simp at hh
        | cons c t => simp at hh; simp [hh]
      have hw0 := hk.gt
      rw [hW0]
      refine wpIn_rangeFunc_ownF (n := 3) rfl (by omega) (gf := 40) (lb := #[.pointer (some ⟨w.heap.size + 1, 0, none⟩)]) rfl trivial (enters_of Tryd.func40 (by kernel_rfl) rfl)
        (parts1_stops _ (w.heap.size + 1) w.heap.size p hl hh' W0 (hk.below hB0) (by omega) hw0 hc2) belowK_t (belowK_b (by omega)) (Below.refl _ _) (fun _ => rfl)
        (fun pre W => (pre.all isPart = true ∧ W.cell? ⟨w.heap.size, 0, none⟩ = some (.bool false) ∧ W.frozen? ⟨w.heap.size, 0, none⟩ = false) ∧ Below w.heap.size w W ∧ Laid W)
        (fun c pre W => (c = .ret ∧ pre.all isPart = false ∧ W.cell? ⟨w.heap.size, 0, none⟩ = some (.bool false)) ∧ Below w.heap.size w W)
        ?hI ?hIx ?h0
        (fun x => { tmps := #[.string (mkS p), undef, .pointer (some ⟨w.heap.size, 0, none⟩), .string (mkS x), .string (mkS p), .int .i64 p.length, .bool false, .bool false, .string (mkS p), .bool true, .bool false, .bool false, .string (mkS p), .func (.func 40) #[] #[.pointer (some ⟨w.heap.size + 1, 0, none⟩)], .string (mkS x), undef, undef, undef], defers := [] }) ?assign ?body ?done ?stop
      case hI => exact OwnFrom.and (Own.from (fun s A B row hs hg hr => ⟨hs.1, cell_kept hs.2.1 hg hr, (frozen_kept hs.2.1 hg hr).trans hs.2.2⟩) _) (OwnFrom.and (ownFrom_below (Nat.le_refl _) (by omega)) (Own.from laid_own _))
      case hIx => exact fun c => OwnFrom.and (Own.from (fun s A B row hs hg hr => ⟨hs.1, hs.2.1, cell_kept hs.2.2 hg hr⟩) _) (ownFrom_below (Nat.le_refl _) (by omega))
      case h0 => exact ⟨⟨rfl, hc1, hf1⟩, hB0, hk.below hB0⟩
      case assign =>
        intro l x W K hK
        gi_wp2
        exact hK
      case body =>
        rintro l pre x W ⟨⟨ha, hc, hf⟩, hB, hL⟩ _
        have hd : 1 ≤ 3 - 1 - 1 := by omega
        cases hx : isPart x with
        | true =>
          have hq : ∀ w', Below W.heap.size W w' → Below w.heap.size w w' ∧ Laid w' := fun w' h => ⟨hB.trans (h.mono hB.size), hL.below h⟩
          gi_wp2_with (refine ⟨trivial, ?_⟩; gi_at_call 27; refine (CallsIn.inRound l (callsIn_wide.2 (isPart_at x true hx W hL _ _ hc hf))).mono ?_; rintro e w' ⟨rfl, hB', hc', hf'⟩)
          rename_i hB' hc' hf'
          exact ⟨keepsOthers_below hB', hB'.mono hB.size, ⟨by rw [List.all_append, ha]; simp [hx], hc', hf'⟩, hq _ hB'⟩
        | false =>
          gi_wp2_with (refine ⟨trivial, ?_⟩; gi_at_call 27; refine (CallsIn.inRound l (callsIn_wide.2 (isPart_at x false hx W hL _ _ hc hf))).mono ?_; rintro e w' ⟨rfl, hB', hc', hf'⟩)
          rename_i hB' hc' hf'
          exact ⟨(keepsOthers_below hB').trans (KeepsOthers.setCell _ _ _), ⟨rfl, by rw [List.all_append]; simp [hx], World.cell?_setCell_same' _ _ _ (by rw [hc']; rfl)⟩, (hB.trans (hB'.mono hB.size)).setCell (p := ⟨w.heap.size, 0, none⟩) (Nat.le_refl _) _⟩
      case done =>
        rintro D ys W hD rfl ⟨⟨ha, hcr, hfr⟩, hB, hL⟩ hK
        have hr : right p = true := by simp [right, hl, hh', ha]
        gi_wp2
        have hK' := (KeepsOthers.setCell W ⟨w.heap.size, 0, none⟩ (.bool true)).same D _ hK rfl
        refine ⟨by simp, .inl ⟨_, _, rfl, run_takeDeferred hK', ?_⟩⟩
        have hc5 := cell_kept (World.cell?_setCell_same' W ⟨w.heap.size, 0, none⟩ (.bool true) (by rw [hcr]; rfl)) (grownBy_putObj' _ D (.deferred none)) (fun r e => by cases e; exact ⟨_, hK', rfl⟩)
        refine ⟨.bool true, ?_, by rw [hr], (hB.setCell (p := ⟨w.heap.size, 0, none⟩) (Nat.le_refl _) _).trans (belowK_b (w := w) (Nat.le_refl _) _ D _ _ (by omega) hK' rfl rfl)⟩
        simp [results, Tryd.f12, go_sem, hc5]
      case stop =>
        rintro D c pre W hD hpre ⟨⟨rfl, ha, hcr⟩, hB⟩ hK
        have hr : right p = false := by
          obtain ⟨r, hr⟩ := hpre
          simp [right, ← hr, ha]
        gi_wp2
        refine ⟨by simp, .inl ⟨_, _, rfl, run_takeDeferred hK, ?_⟩⟩
        have hc5 := cell_kept hcr (grownBy_putObj' _ D (.deferred none)) (fun r e => by cases e; exact ⟨_, hK, rfl⟩)
        refine ⟨.bool false, ?_, by rw [hr], hB.trans (belowK_b (w := w) (Nat.le_refl _) W D _ _ (by omega) hK rfl rfl)⟩
        simp [results, Tryd.f12, go_sem, hc5]
  · have hf : right p = false := by simp [right, hl]
    have t1 : (200 : Int) < ((p.length : Nat) : Int) := by omega
    go_enter Tryd.func12, Tryd.ntmps12
    go_wp2
    have hc := newCell w (.bool false) 4
    refine bodyPost_ret (v := .bool false) (by simp [results, Tryd.f12, go_sem, hc.1]) rfl ?_
    exact ⟨by rw [hf], newBelow w _⟩

end Go.Proofs.YtkbmbnfpadllmaaDoor.PA
