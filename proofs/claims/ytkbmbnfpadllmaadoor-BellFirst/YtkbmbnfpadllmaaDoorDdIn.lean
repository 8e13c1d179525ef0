/- What a deed that comes in gives: its fields, what its slices hold, its parts. -/
import Derived.Test.YtkbmbnfpadllmaaDoorLiftE
import Derived.Test.YtkbmbnfpadllmaaDoorDdR
namespace Go.Proofs.YtkbmbnfpadllmaaDoor.DD
set_option linter.unusedVariables false
open Go.ChangeShapes Go.WideShapes Go.ChangeAt Go.RowKit
set_option linter.unusedVariables false

theorem list16 {cs : List Value} (h : cs.length = 16) : ∃ v0 v1 v2 v3 v4 v5 v6 v7 v8 v9 v10 v11 v12 v13 v14 v15, cs = [v0, v1, v2, v3, v4, v5, v6, v7, v8, v9, v10, v11, v12, v13, v14, v15] := by
  match cs, h with
  | [v0, v1, v2, v3, v4, v5, v6, v7, v8, v9, v10, v11, v12, v13, v14, v15], _ => exact ⟨v0, v1, v2, v3, v4, v5, v6, v7, v8, v9, v10, v11, v12, v13, v14, v15, rfl⟩
theorem deed_cells : Tryd.prog.cellsOf 32 = 16 := by kernel_rfl
/- One deed, its parts unread. -/
set_option maxRecDepth 100000 in
set_option maxHeartbeats 2000000 in
theorem flat_read {H : Type} {enc : TypeId × Value → H} {W : World} {fuel : Nat} {cs : List Value} {x : DataW H × List MemPlace}
    (hf : DataW.trod enc Tryd.prog W 0 (fun _ => true) true fuel 32 cs = some x) :
    ∃ (f : Fl) (A1 A2 : Option Addr) (c1 c2 : Nat) (u : Value) (n : Nat) (y : DataW H × List MemPlace), cs = [.int .i64 f.zxid, .int .u8 f.kind, .int .i64 f.session, .int .i64 f.turn, .int .i64 f.xid, .int .i64 f.time, .string (mkS f.path), .slice A1 f.data.length c1, .int .i64 f.owner, .int .i64 f.version, .int .i64 f.cversion, .int .i64 f.timeout, .int .i64 f.err, .int .i64 f.cver, .slice A2 f.mems.length c2, u] ∧
      Bs W (.slice A1 f.data.length c1) f.data ∧ Mems W (.slice A2 f.mems.length c2) f.mems ∧ FlFit f ∧ DataW.trod enc Tryd.prog W 0 (fun _ => true) true n 30 [u] = some y := by
  obtain ⟨xs, n, _, hx, hl, hlen, hfs⟩ := DataW.trod_struct Tryd.underlying32 hf
  rw [deed_cells] at hl
  obtain ⟨v0, v1, v2, v3, v4, v5, v6, v7, v8, v9, v10, v11, v12, v13, v14, v15, rfl⟩ := list16 hl
  have hget : ∀ i (h : i < 15), xs[i]? = some (xs[i]'(by rw [hlen]; exact h)) := fun i h => List.getElem?_eq_getElem _
  obtain ⟨z0, hz0, -, w0⟩ := DataW.trod_int Tryd.underlying23 ((hfs 0 _ rfl).trans (hget 0 (by decide)))
  have e0 : v0 = .int .i64 z0 := by simpa [show Tryd.prog.cellsOf 23 = 1 by kernel_rfl] using hz0
  obtain ⟨z1, hz1, -, w1⟩ := DataW.trod_int Tryd.underlying24 ((hfs 1 _ rfl).trans (hget 1 (by decide)))
  have e1 : v1 = .int .u8 z1 := by simpa [show Tryd.prog.cellsOf 24 = 1 by kernel_rfl] using hz1
  obtain ⟨z2, hz2, -, w2⟩ := DataW.trod_int Tryd.underlying2 ((hfs 2 _ rfl).trans (hget 2 (by decide)))
  have e2 : v2 = .int .i64 z2 := by simpa [show Tryd.prog.cellsOf 2 = 1 by kernel_rfl] using hz2
  obtain ⟨z3, hz3, -, w3⟩ := DataW.trod_int Tryd.underlying3 ((hfs 3 _ rfl).trans (hget 3 (by decide)))
  have e3 : v3 = .int .i64 z3 := by simpa [show Tryd.prog.cellsOf 3 = 1 by kernel_rfl] using hz3
  obtain ⟨z4, hz4, -, w4⟩ := DataW.trod_int Tryd.underlying3 ((hfs 4 _ rfl).trans (hget 4 (by decide)))
  have e4 : v4 = .int .i64 z4 := by simpa [show Tryd.prog.cellsOf 3 = 1 by kernel_rfl] using hz4
  obtain ⟨z5, hz5, -, w5⟩ := DataW.trod_int Tryd.underlying2 ((hfs 5 _ rfl).trans (hget 5 (by decide)))
  have e5 : v5 = .int .i64 z5 := by simpa [show Tryd.prog.cellsOf 2 = 1 by kernel_rfl] using hz5
  obtain ⟨z8, hz8, -, w8⟩ := DataW.trod_int Tryd.underlying2 ((hfs 8 _ rfl).trans (hget 8 (by decide)))
  have e8 : v8 = .int .i64 z8 := by simpa [show Tryd.prog.cellsOf 2 = 1 by kernel_rfl] using hz8
  obtain ⟨z9, hz9, -, w9⟩ := DataW.trod_int Tryd.underlying3 ((hfs 9 _ rfl).trans (hget 9 (by decide)))
  have e9 : v9 = .int .i64 z9 := by simpa [show Tryd.prog.cellsOf 3 = 1 by kernel_rfl] using hz9
  obtain ⟨z10, hz10, -, w10⟩ := DataW.trod_int Tryd.underlying3 ((hfs 10 _ rfl).trans (hget 10 (by decide)))
  have e10 : v10 = .int .i64 z10 := by simpa [show Tryd.prog.cellsOf 3 = 1 by kernel_rfl] using hz10
  obtain ⟨z11, hz11, -, w11⟩ := DataW.trod_int Tryd.underlying3 ((hfs 11 _ rfl).trans (hget 11 (by decide)))
  have e11 : v11 = .int .i64 z11 := by simpa [show Tryd.prog.cellsOf 3 = 1 by kernel_rfl] using hz11
  obtain ⟨z12, hz12, -, w12⟩ := DataW.trod_int Tryd.underlying26 ((hfs 12 _ rfl).trans (hget 12 (by decide)))
  have e12 : v12 = .int .i64 z12 := by simpa [show Tryd.prog.cellsOf 26 = 1 by kernel_rfl] using hz12
  obtain ⟨s6, hz6, -, -⟩ := DataW.trod_string Tryd.underlying9 ((hfs 6 _ rfl).trans (hget 6 (by decide)))
  have e6 : v6 = .string s6 := by simpa [show Tryd.prog.cellsOf 9 = 1 by kernel_rfl] using hz6
  obtain ⟨p6, rfl⟩ := PA.mkS_of s6
  obtain ⟨ld, A1, c1, hz7, hbs, -, -⟩ := bytes_read ((hfs 7 _ rfl).trans (hget 7 (by decide)))
  have e7 : v7 = .slice A1 ld.length c1 := by simpa [show Tryd.prog.cellsOf 25 = 1 by kernel_rfl] using hz7
  have t13 := (hfs 13 _ rfl).trans (hget 13 (by decide))
  obtain ⟨y0, y1, n', -, -, t0, t1⟩ := trod_struct2 Tryd.underlying29 t13
  obtain ⟨z13, hz13, -, w13⟩ := DataW.trod_int Tryd.underlying23 t0
  obtain ⟨lm, A2, c2, hz14, hms, -, -, -⟩ := mems_read t1
  have e13 : v13 = .int .i64 z13 := by simpa [show Tryd.prog.cellsOf 23 = 1 by kernel_rfl, ens_cells] using hz13
  have e14 : v14 = .slice A2 lm.length c2 := by simpa [show Tryd.prog.cellsOf 27 = 1 by kernel_rfl, ens_cells] using hz14
  have t15 := (hfs 14 _ rfl).trans (hget 14 (by decide))
  have t15' : DataW.trod enc Tryd.prog W 0 (fun _ => true) true n 30 [v15] = some (xs[14]'(by rw [hlen]; decide)) := by
    have hc : Tryd.prog.cellsOf 30 = 1 := by kernel_rfl
    simpa [hc] using t15
  subst e0 e1 e2 e3 e4 e5 e6 e7 e8 e9 e10 e11 e12 e13 e14
  exact ⟨⟨z0, z1, z2, z3, z4, z5, p6, ld, z8, z9, z10, z11, z12, z13, lm, 0⟩, A1, A2, c1, c2, v15, n, _, rfl, hbs, hms, ⟨wf_i64 w0, wf_u8 w1, wf_i64 w2, wf_i64 w3, wf_i64 w4, wf_i64 w5, wf_i64 w8, wf_i64 w9, wf_i64 w10, wf_i64 w11, wf_i64 w12, wf_i64 w13⟩, t15'⟩
/- One deed, the length of its parts told. -/
theorem form_read {H : Type} {enc : TypeId × Value → H} {W : World} {fuel : Nat} {u : Value} {x : DataW H × List MemPlace}
    (hf : DataW.trod enc Tryd.prog W 0 (fun _ => true) true fuel 30 [u] = some x) : ∃ A n C, u = .slice A n C ∧ n ≤ maxLen := by
  rcases Go.Deep.open_slice Tryd.underlying30 hf with ⟨hcs, _⟩ | ⟨ad, len, cap, m, n, D, Pl, hcs, _, hl, hmx, _⟩
  · exact ⟨none, 0, 0, by simpa using hcs, Nat.zero_le _⟩
  · exact ⟨some ad, len, cap, by simpa using hcs, Nat.le_trans hl hmx⟩
theorem deed_read {H : Type} {enc : TypeId × Value → H} {W : World} {fuel : Nat} {cs : List Value} {x : DataW H × List MemPlace}
    (hf : DataW.trod enc Tryd.prog W 0 (fun _ => true) true fuel 32 cs = some x) :
    ∃ (f : Fl) (A1 A2 A3 : Option Addr) (c1 c2 c3 : Nat) (n : Nat) (y : DataW H × List MemPlace), cs = [.int .i64 f.zxid, .int .u8 f.kind, .int .i64 f.session, .int .i64 f.turn, .int .i64 f.xid, .int .i64 f.time, .string (mkS f.path), .slice A1 f.data.length c1, .int .i64 f.owner, .int .i64 f.version, .int .i64 f.cversion, .int .i64 f.timeout, .int .i64 f.err, .int .i64 f.cver, .slice A2 f.mems.length c2, .slice A3 f.np c3] ∧
      Bs W (.slice A1 f.data.length c1) f.data ∧ Mems W (.slice A2 f.mems.length c2) f.mems ∧ FlFit f ∧ f.np ≤ maxLen ∧ DataW.trod enc Tryd.prog W 0 (fun _ => true) true n 30 [.slice A3 f.np c3] = some y := by
  obtain ⟨f, A1, A2, c1, c2, u, n, y, rfl, h1, h2, h3, h4⟩ := flat_read hf
  obtain ⟨A3, k, c3, rfl, hk⟩ := form_read h4
  exact ⟨{ f with np := k }, A1, A2, A3, c1, c2, c3, n, y, rfl, h1, h2, ⟨h3.1, h3.2, h3.3, h3.4, h3.5, h3.6, h3.7, h3.8, h3.9, h3.10, h3.11, h3.12⟩, hk, h4⟩
theorem cells_at {w : World} {b o n : Nat} {cs : List Value} (h : w.cells? 0 ⟨b, o, none⟩ n = some cs) : cs.length = n ∧ ∀ i, i < n → w.cell? ⟨b, o + i, none⟩ = cs[i]? := by
  unfold World.cells? at h
  rw [if_pos (Nat.zero_le _)] at h
  refine ⟨by simpa using mapM_some_length h, fun i hi => ?_⟩
  have := mapM_some_get h i i (by simp [hi])
  rwa [plain_add] at this
theorem spot_of {w : World} {b o n : Nat} {sp : Option Nat} {cs : List Value} (h : w.cells? 0 (({ block := b, off := o, spot := sp } : Addr).add (0 * 16)) 16 = some cs) : sp = none := by
  unfold World.cells? at h
  rw [if_pos (Nat.zero_le _)] at h
  have := mapM_some_get h 0 0 (by simp)
  have hl := mapM_some_length h
  cases hc : w.cell? ((({ block := b, off := o, spot := sp } : Addr).add (0 * 16)).add 0) with
  | none => rw [hc] at this; have h2 := List.getElem?_eq_none_iff.1 this.symm; simp at hl; omega
  | some u => simpa [Addr.add] using World.cell?_spot hc
set_option maxRecDepth 100000 in
theorem parts_read {H : Type} {enc : TypeId × Value → H} {W : World} {fuel : Nat} {A : Option Addr} {N C : Nat} {x : DataW H × List MemPlace}
    (hf : DataW.trod enc Tryd.prog W 0 (fun _ => true) true fuel 30 [.slice A N C] = some x) :
    ∃ ps, N = ps.length ∧ Prts W W.heap.size (.slice A N C) ps ∧ ∀ p ∈ ps, FlFit p := by
  rcases Go.Deep.open_slice Tryd.underlying30 hf with ⟨hcs, hx⟩ | ⟨ad, len, cap, m, n, D, Pl, hcs, _, hl, hmx, hm, hx, hel⟩
  · simp at hcs
    obtain ⟨rfl, rfl, rfl⟩ := hcs
    exact ⟨[], rfl, .inl ⟨rfl, rfl⟩, fun p hp => by simp at hp⟩
  · simp at hcs
    obtain ⟨rfl, rfl, rfl⟩ := hcs
    simp only [if_true] at hm
    subst hm
    by_cases h0 : 0 < N
    · obtain ⟨cs0, hc0, _⟩ := hel 0 (by omega)
      obtain ⟨b, o, spot⟩ := ad
      rw [deed_cells] at hel hc0
      have hsp : spot = none := spot_of (n := 0) hc0
      subst hsp
      have key : ∀ i, i < N → ∃ p : Fl, (∃ A1 c1 A2 c2 A3 c3, DCells W b (o + i * 16) p A1 c1 A2 c2 A3 c3 ∧ DRest W W.heap.size p A1 c1 A2 c2) ∧ FlFit p := by
        intro i hi
        obtain ⟨cs', hc1, hc2⟩ := hel i (by omega)
        rw [plain_add] at hc1
        obtain ⟨f, A1, A2, A3, c1, c2, c3, n', y, rfl, g1, g2, g3, g4, g5⟩ := deed_read hc2
        obtain ⟨-, hc⟩ := cells_at hc1
        exact ⟨f, ⟨A1, c1, A2, c2, A3, c3, ⟨hc 0 (by decide), hc 1 (by decide), hc 2 (by decide), hc 3 (by decide), hc 4 (by decide), hc 5 (by decide), hc 6 (by decide), hc 7 (by decide), hc 8 (by decide), hc 9 (by decide), hc 10 (by decide), hc 11 (by decide), hc 12 (by decide), hc 13 (by decide), hc 14 (by decide), hc 15 (by decide)⟩, ⟨g1, fun k hk => g1.lt hk, g2, fun k hk => g2.lt hk⟩⟩, g3⟩
      obtain ⟨l, hll, hp⟩ := list_of _ N key
      refine ⟨l, hll.symm, .inr (.inr ⟨by omega, b, o, m, by rw [hll], by omega, ?_, Nat.le_refl _, fun j hj => (hp j hj).1⟩), fun z hz => ?_⟩
      · obtain ⟨z, ⟨_, _, _, _, _, _, hz, _⟩, _⟩ := key 0 h0
        exact World.block_lt_of_cell? W _ hz.1
      · obtain ⟨j, hj, rfl⟩ := List.getElem_of_mem hz
        exact (hp j hj).2
    · have hl0 : N = 0 := by omega
      subst hl0
      exact ⟨[], rfl, .inr (.inl ⟨ad, m, rfl, rfl⟩), fun p hp => by simp at hp⟩
/- A deed as it comes in. -/
theorem deed_in {H : Type} {enc : TypeId × Value → H} {W : World} {fuel : Nat} {cs : List Value} {x : DataW H × List MemPlace}
    (hf : DataW.trod enc Tryd.prog W 0 (fun _ => true) true fuel 32 cs = some x) :
    ∃ (f : Fl) (ps : List Fl) (A1 A2 A3 : Option Addr) (c1 c2 c3 : Nat), cs = [.int .i64 f.zxid, .int .u8 f.kind, .int .i64 f.session, .int .i64 f.turn, .int .i64 f.xid, .int .i64 f.time, .string (mkS f.path), .slice A1 f.data.length c1, .int .i64 f.owner, .int .i64 f.version, .int .i64 f.cversion, .int .i64 f.timeout, .int .i64 f.err, .int .i64 f.cver, .slice A2 f.mems.length c2, .slice A3 f.np c3] ∧ DVal W f ps A1 c1 A2 c2 A3 c3 ∧ DedFit f ps ∧ f.np ≤ 9223372036854775807 := by
  obtain ⟨f, A1, A2, A3, c1, c2, c3, n, y, rfl, h1, h2, h3, h4, h5⟩ := deed_read hf
  obtain ⟨ps, hn, hp, hq⟩ := parts_read h5
  exact ⟨f, ps, A1, A2, A3, c1, c2, c3, rfl, ⟨h1, h2, hp⟩, ⟨h3, hq, hn⟩, by have : maxLen = 9223372036854775807 := rfl; omega⟩
end Go.Proofs.YtkbmbnfpadllmaaDoor.DD
