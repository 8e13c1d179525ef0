/- What LinkApart reads of a load that was told. -/
import Derived.Test.YtpmbkncakbcmbaaLkWh
import Derived.Test.YtpmbkncakbcmbaaLkAw
namespace Go.Proofs.Ytpmbkncakbcmbaa
set_option linter.unusedVariables false
open Go.RowKit Go.Sort
set_option linter.unusedVariables false

theorem ld_cells {V : World} {A : Option Addr} {n C f t : Nat} {i : Int} (h : Bs V (.slice A n C) (ldA f i t)) (hf : f < 2) (ht : t ≤ 300) :
    n = 4 ∧ ∃ g o, A = some ⟨g, o, none⟩ ∧ V.cell? ⟨g, o, none⟩ = some (.int .u8 (f : Int)) ∧ V.cell? ⟨g, o + 1, none⟩ = some (.int .u8 ((i.toNat % 256 : Nat) : Int)) ∧ V.cell? ⟨g, o + 2, none⟩ = some (.int .u8 ((t % 256 : Nat) : Int)) ∧ V.cell? ⟨g, o + 3, none⟩ = some (.int .u8 ((t / 256 : Nat) : Int)) := by
  have hn : n = 4 := by
    obtain ⟨A', C', e⟩ := bs_form h
    injection e
  obtain ⟨g, o, e0, c0⟩ := h.at' 0 (by simp [ldA])
  obtain ⟨g1, o1, e1, c1⟩ := h.at' 1 (by simp [ldA])
  obtain ⟨g2, o2, e2, c2⟩ := h.at' 2 (by simp [ldA])
  obtain ⟨g3, o3, e3, c3⟩ := h.at' 3 (by simp [ldA])
  rw [e0] at e1 e2 e3
  injection e1 with e1
  injection e1 with a1 b1
  injection e2 with e2
  injection e2 with a2 b2
  injection e3 with e3
  injection e3 with a3 b3
  subst a1 b1 a2 b2 a3 b3
  refine ⟨hn, g, o, e0, ?_, ?_, ?_, ?_⟩
  · have q : f % 256 = f := by omega
    have q : (f : Int) % 256 = f := by omega
    simpa [ldA, UInt8.toNat_ofNat', q] using c0
  · simpa [ldA, UInt8.toNat_ofNat'] using c1
  · simpa [ldA, UInt8.toNat_ofNat'] using c2
  · have q : t / 256 % 256 = t / 256 := by omega
    have q' : (t : Int) / 256 % 256 = (t : Int) / 256 := by omega
    simpa [ldA, UInt8.toNat_ofNat', q, q'] using c3
theorem told_cells {V : World} {A : Option Addr} {m N C f T t : Nat} {i : Int} {tl : List (List UInt8)} (h : Rr V (.slice A N C) tl) (hN : N = m + 1) (hok : ∀ x ∈ tl, OkA f i T x) (hlast : ∀ x, tl.getLast? = some x → tagA x < t) (hf : f < 2) (hT : T ≤ 300) :
    ∃ g2 o2, A = some ⟨g2, o2, none⟩ ∧ ∃ g3 o3 C3 g4 o4 C4 t0, V.cell? ⟨g2, o2, none⟩ = some (.slice (some ⟨g3, o3, none⟩) 4 C3) ∧ V.cell? ⟨g3, o3 + 1, none⟩ = some (.int .u8 ((i.toNat % 256 : Nat) : Int)) ∧
      V.cell? ⟨g2, o2 + m, none⟩ = some (.slice (some ⟨g4, o4, none⟩) 4 C4) ∧ V.cell? ⟨g4, o4 + 2, none⟩ = some (.int .u8 ((t0 % 256 : Nat) : Int)) ∧ V.cell? ⟨g4, o4 + 3, none⟩ = some (.int .u8 ((t0 / 256 : Nat) : Int)) ∧ t0 < t ∧ t0 ≤ 300 := by
  have hl : tl.length = m + 1 := by
    obtain ⟨A', C', e⟩ := h.form
    injection e with _ e
    omega
  obtain ⟨g2, o2, A3, C3, e2, c2, b2⟩ := h.at 0 (by omega)
  obtain ⟨g2', o2', A4, C4, e4, c4, b4⟩ := h.at m (by omega)
  rw [e2] at e4
  injection e4 with e4
  injection e4 with a4 b4'
  subst a4 b4'
  obtain ⟨t1, h1, q1⟩ := hok _ (List.getElem_mem (show 0 < tl.length by omega))
  obtain ⟨t0, h0, q0⟩ := hok _ (List.getElem_mem (show m < tl.length by omega))
  have hlt := hlast (tl[m]'(by omega)) (by
    rw [List.getLast?_eq_getElem?, show tl.length - 1 = m by omega]
    exact List.getElem?_eq_getElem (show m < tl.length by omega))
  rw [q0] at b4 c4 hlt
  rw [q1] at b2 c2
  rw [tagA_ld (by omega)] at hlt
  obtain ⟨_, g3, o3, e3, _, x1, _, _⟩ := ld_cells b2 hf (by omega)
  obtain ⟨_, g5, o5, e5, _, _, y2, y3⟩ := ld_cells b4 hf (by omega)
  subst e3 e5
  exact ⟨g2, o2, e2, g3, o3, C3, g5, o5, C4, t0, c2, x1, c4, y2, y3, hlt, by omega⟩
/- A packet is taken: what it brings, and whether the connection broke, as letters. -/
theorem pw_tookA {w W : World} {h h' a a' : Nat} {k k' : Int} {F : Fs} {X Y : Sd} {H : Hs} (m : PW w W h h' a a' k k' F X Y H) {p : Pkt} {A : Option Addr} {C : Nat} (hm : (.slice A p.load.length C, p.load) ∈ H) (hf : i64 p.fr) (hl : p.load.length ≤ 140737488355328) (ha : X.s.acked < 4611686018427387904) (hg : X.s.got < 4611686018427387904) :
    Calls Try.prog 17 #[.pointer (some ⟨a, 0, none⟩), .agg #[.int .i64 p.fr, .int .i64 p.to, .int .i64 p.seq, .int .i64 p.ack, .slice A p.load.length C]] W fun e W' => ∃ A' C' L' ok br, e = .returned (.tuple #[.slice A' L' C', .bool ok, .bool br]) ∧ Hid (W'.heap[h]? = W.heap[h]? ∧ W'.heap[h']? = W.heap[h']? ∧ ∀ g n D, W.cell? ⟨h', 4, none⟩ = some (.slice (some ⟨g, 0, none⟩) n D) → W'.heap[g]? = W.heap[g]?) ∧
      Hid (ok = (takeR X.s p).ok ∧ br = (takeR X.s p).broke ∧ L' = (takeR X.s p).load.length) ∧ Hid (PW w W' h h' a a' k k' F ⟨(takeR X.s p).st, X.sent, X.told, X.outs⟩ Y [(.slice A' L' C', (takeR X.s p).load)]) := by
  refine (pw_takeC m hm hf hl ha hg).mono ?_
  rintro e W' ⟨A', C', rfl, hkp, q⟩
  exact ⟨A', C', _, _, _, rfl, hkp, ⟨rfl, rfl, rfl⟩, q.out.fewH (fun x hx => by simp at hx; subst hx; exact .head _)⟩
end Go.Proofs.Ytpmbkncakbcmbaa
