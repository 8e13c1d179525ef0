/- A net that a walk has at hand, with what was taken from it: its calls, a line each. -/
import Derived.Test.YtkcncaddhfgmaaaNtK
import Derived.Test.YtkcncaddhfgmaaaNtS
namespace Go.Proofs.Ytkcncaddhfgmaaa
open Go.RowKit Go.MapKept

/- In world wr (w: an earlier one) the net n has the packets L; H: bytes that lie apart from it. -/
def At (w wr : World) (n : Nat) (L : List Pk) (H : List (Value × List UInt8)) : Prop :=
  ∃ T : Nat → Prop, (∀ k, k < w.heap.size → T k) ∧ Nx wr n L T ∧ Below w.heap.size w wr ∧ ∀ p ∈ H, Bs wr p.1 p.2 ∧ ∀ k, bk p.1 = some k → T k
theorem At.low {w wr : World} {n : Nat} {L : List Pk} {H : List (Value × List UInt8)} (h : At w wr n L H) : Below w.heap.size w wr := by obtain ⟨_, _, _, h, _⟩ := h; exact h
theorem At.bs {w wr : World} {n : Nat} {L : List Pk} {H : List (Value × List UInt8)} (h : At w wr n L H) {v : Value} {b : List UInt8} (hm : (v, b) ∈ H) : Bs wr v b := by obtain ⟨_, _, _, _, h⟩ := h; exact (h _ hm).1
theorem At.below {w wr w' : World} {n : Nat} {L : List Pk} {H : List (Value × List UInt8)} (h : At w wr n L H) (hb : Below wr.heap.size wr w') : At w w' n L H := by
  obtain ⟨T, h1, h2, h3, h4⟩ := h
  exact ⟨T, h1, h2.below hb, h3.trans (hb.mono h3.size), fun p hp => ⟨(h4 p hp).1.keep (Chg.of_below hb) (fun _ _ => id), (h4 p hp).2⟩⟩
theorem At.alloc {w wr : World} {n : Nat} {L : List Pk} {H : List (Value × List UInt8)} (h : At w wr n L H) (o : Obj) : At w (wr.alloc o) n L H := h.below ((Below.refl _ _).alloc (Nat.le_refl _) o)
theorem At.drewN {w wr : World} {n : Nat} {L : List Pk} {H : List (Value × List UInt8)} (h : At w wr n L H) (q : Nat) : At w (wr.drewN q) n L H := h.below (below_drewN (Below.refl _ _) q)
theorem At.none {w wr : World} {n : Nat} {L : List Pk} {H : List (Value × List UInt8)} (h : At w wr n L H) : At w wr n L [] := by
  obtain ⟨T, h1, h2, h3, h4⟩ := h
  exact ⟨T, h1, h2, h3, fun p hp => by simp at hp⟩
theorem at_new {w wr : World} (hb : Below w.heap.size w wr) : Calls Try.prog 6 #[] wr fun e w' => ∃ n, e = .returned (.pointer (some ⟨n, 0, none⟩)) ∧ At w w' n [] [] := by
  refine (new_any wr).mono ?_
  rintro e w' ⟨n, rfl, h1, h2⟩
  exact ⟨n, rfl, _, fun k hk => Nat.lt_of_lt_of_le hk hb.size, h1, hb.trans (h2.mono hb.size), fun p hp => by simp at hp⟩
theorem at_kp {w wr w' : World} {n : Nat} {L' : List Pk} {H : List (Value × List UInt8)} {T : Nat → Prop} (h1 : ∀ k, k < w.heap.size → T k) (h3 : Below w.heap.size w wr) (h4 : ∀ p ∈ H, Bs wr p.1 p.2 ∧ ∀ k, bk p.1 = some k → T k)
    (a : Nx w' n L' T) (hk : Kp T wr w') : At w w' n L' H :=
  ⟨T, h1, a, h3.trans (hk.below h1 h3.size), fun p hp => ⟨(h4 p hp).1.kp hk (h4 p hp).2, (h4 p hp).2⟩⟩
theorem at_send {w wr : World} {n : Nat} {L : List Pk} {H : List (Value × List UInt8)} (h : At w wr n L H) (k : Int × Int) {x : Value} {b : List UInt8} (hx : Bs wr x b) {r : Bool} {L' : List Pk} (hr : sendOk L k b = r) (hL : (if r = true then L ++ [(k, b)] else L) = L') :
    Calls Try.prog 8 #[.pointer (some ⟨n, 0, none⟩), .int .i64 k.1, .int .i64 k.2, x] wr fun e w' => e = .returned (.bool r) ∧ At w w' n L' H := by
  obtain ⟨T, h1, h2, h3, h4⟩ := h
  subst hr hL
  refine (send_any h2 k hx).mono ?_
  rintro e w' ⟨rfl, a, hk⟩
  exact ⟨rfl, at_kp h1 h3 h4 a hk⟩
theorem at_twice {w wr : World} {n : Nat} {L : List Pk} {H : List (Value × List UInt8)} (h : At w wr n L H) (k : Int × Int) (i : Int) {r : Bool} {L' : List Pk} (hr : twiceR L k i = (r, L')) :
    Calls Try.prog 9 #[.pointer (some ⟨n, 0, none⟩), .int .i64 k.1, .int .i64 k.2, .int .i64 i] wr fun e w' => e = .returned (.bool r) ∧ At w w' n L' H := by
  obtain ⟨T, h1, h2, h3, h4⟩ := h
  have := twice_any h2 k i
  rw [hr] at this
  refine this.mono ?_
  rintro e w' ⟨rfl, a, hk⟩
  exact ⟨rfl, at_kp h1 h3 h4 a hk⟩
theorem at_clear {w wr : World} {n : Nat} {L : List Pk} {H : List (Value × List UInt8)} (h : At w wr n L H) (a b : Int) {L' : List Pk} (hr : clearP L a b = L') :
    Calls Try.prog 19 #[.pointer (some ⟨n, 0, none⟩), .int .i64 a, .int .i64 b] wr fun e w' => e = .returned (.tuple #[]) ∧ At w w' n L' H := by
  obtain ⟨T, h1, h2, h3, h4⟩ := h
  subst hr
  refine (clear_any h2 a b).mono ?_
  rintro e w' ⟨rfl, a, hk⟩
  exact ⟨rfl, at_kp h1 h3 h4 a hk⟩
theorem at_count {w wr : World} {n : Nat} {L : List Pk} {H : List (Value × List UInt8)} (h : At w wr n L H) (k : Int × Int) {c : Nat} (hc : (bagOf L k).length = c) :
    Calls Try.prog 16 #[.pointer (some ⟨n, 0, none⟩), .int .i64 k.1, .int .i64 k.2] wr fun e w' => e = .returned (.int .i64 c) ∧ At w w' n L H := by
  have h' := h
  obtain ⟨T, h1, h2, h3, h4⟩ := h'
  subst hc
  refine (count_any h2 k).mono ?_
  rintro e w' ⟨rfl, hb⟩
  exact ⟨rfl, h.below hb⟩
theorem at_not {w wr : World} {n : Nat} {L : List Pk} {H : List (Value × List UInt8)} (h : At w wr n L H) (k : Int × Int) (i : Int) (hp : peek L k i = Option.none) :
    Calls Try.prog 12 #[.pointer (some ⟨n, 0, none⟩), .int .i64 k.1, .int .i64 k.2, .int .i64 i] wr fun e w' => e = .returned (.tuple #[.slice Option.none 0 0, .bool false]) ∧ At w w' n L H := by
  have h' := h
  obtain ⟨T, h1, h2, h3, h4⟩ := h'
  refine (take_none h2 k i hp).mono ?_
  rintro e w' ⟨rfl, hb⟩
  exact ⟨rfl, h.below hb⟩
theorem at_take {w wr : World} {n : Nat} {L : List Pk} {H : List (Value × List UInt8)} (h : At w wr n L H) (k : Int × Int) (i : Int) {b : List UInt8} (hp : peek L k i = some b) {c : Nat} (hc : b.length = c) {L' : List Pk} (hr : takeP L k i.toNat = L') :
    Calls Try.prog 12 #[.pointer (some ⟨n, 0, none⟩), .int .i64 k.1, .int .i64 k.2, .int .i64 i] wr fun e w' => ∃ A C, e = .returned (.tuple #[.slice A c C, .bool true]) ∧ At w w' n L' ((.slice A c C, b) :: H) := by
  obtain ⟨T, h1, h2, h3, h4⟩ := h
  subst hr hc
  refine (take_some h2 k i hp).mono ?_
  rintro e w' ⟨A, C, rfl, ho, hn, a, hk⟩
  refine ⟨A, C, rfl, _, fun k hk => .inl (h1 k hk), a, h3.trans (hk.below h1 h3.size), fun p hp => ?_⟩
  rcases List.mem_cons.1 hp with rfl | hp
  · exact ⟨Bs.of_owns ho, fun k hk => .inr (bk_blk hk)⟩
  · exact ⟨(h4 p hp).1.kp hk (h4 p hp).2, fun k hk => .inl ((h4 p hp).2 k hk)⟩
theorem at_links {w wr : World} {n : Nat} {L : List Pk} {H : List (Value × List UInt8)} (h : At w wr n L H) (hl : L.length ≤ 1000000) {K : List (Int × Int)} (hK : linksOf L = K) {c : Nat} (hc : K.length = c) :
    Calls Try.prog 18 #[.pointer (some ⟨n, 0, none⟩)] wr fun e w' => ∃ A C, e = .returned (.slice A c C) ∧ Ls w' (.slice A c C) K ∧ At w w' n L H := by
  have h' := h
  obtain ⟨T, h1, h2, h3, h4⟩ := h'
  subst hK hc
  refine (links_any h2 hl).mono ?_
  rintro e w' ⟨A, C, rfl, ho, hb⟩
  exact ⟨A, C, rfl, Ls.of_owns ho, h.below hb⟩
theorem at_same {w wr : World} {n : Nat} {L : List Pk} {H : List (Value × List UInt8)} (h : At w wr n L H) {u v : Value} {b : List UInt8} (hu : Bs wr u b) (hv : Bs wr v b) (hm : b.length ≤ 140737488355328) :
    Calls Try.prog 13 #[u, v] wr fun e w' => e = .returned (.bool true) ∧ At w w' n L H := by
  refine (same_any hu hv hm).mono ?_
  rintro e w' ⟨rfl, q, rfl⟩
  exact ⟨by simp, h.drewN q⟩
theorem at_eq {w wr : World} {n : Nat} {L : List Pk} {H : List (Value × List UInt8)} (h : At w wr n L H) {u v : Value} {K : List (Int × Int)} (hu : Ls wr u K) (hv : Ls wr v K) (hm : K.length ≤ 1000000) :
    Calls Try.prog 17 #[u, v] wr fun e w' => e = .returned (.bool true) ∧ At w w' n L H := by
  refine (links_eq hu hv hm).mono ?_
  rintro e w' ⟨rfl, q, rfl⟩
  exact ⟨by simp, h.drewN q⟩
theorem made_bytes (N : Nat) (hN : N ≤ 1048577) (I : Int) (hI : I = N) : ∃ M, ∃ Z : List UInt8, Z.length = N ∧ (∀ w, (Instr.makeSlice 22 (.int .i64 I) (.int .i64 I)).run Try.prog w = .ok (.slice (some ⟨w.heap.size, 0, none⟩) N N) (w.alloc (.cells M 5))) ∧
    ∀ w : World, Bs (w.alloc (.cells M 5)) (.slice (some ⟨w.heap.size, 0, none⟩) N N) Z := by
  subst hI
  obtain ⟨i0, hi, hz0, hz1, hz2⟩ := info_parts info5
  refine ⟨madeCells #[.int .u8 0] N, List.replicate N 0, by simp, fun w => ?_, fun w => ?_⟩
  · have := run_make (P := Try.prog) (w := w) 22 5 i0 (.int .u8 0) Try.underlying22 hi hz0 .i64 .i64 (N : Int) (N : Int) (by omega) (by omega) (by rw [hz2]; omega) (by omega)
    rw [this, hz1]
    simp [Value.cells]
  · have e : (List.replicate N (0 : UInt8)).length = N := by simp
    have := Bs_new w (List.replicate N 0) (madeCells #[.int .u8 0] N) (0, 0) N (by simp) (fun j hj => by
      have hj' : j < N := by simpa using hj
      simp [madeCells, hj', Nat.mod_one])
    rwa [e] at this
end Go.Proofs.Ytkcncaddhfgmaaa
