/- Scan: the contract. -/
import Derived.Test.YtaeoafedfgbcaaaGreatDoorSgG
import Derived.Test.YtaeoafedfgbcaaaGreatDoorSgF
import Derived.Test.YtaeoafedfgbcaaaGreatDoorSgT3
namespace Go.Proofs.YtaeoafedfgbcaaaGreatDoor.DD
set_option linter.unusedVariables false
open Go.RowKit Go.Shelf
attribute [local go_sem] Oper.semAt_some
set_option linter.unusedVariables false

theorem frames_any (w : World) (A : Option Addr) (n C : Nat) : Calls Tryz.prog 12 #[.slice A n C] w fun e w' => e = .returned (.func (.func 20) #[] #[.pointer (some ⟨w.heap.size, 0, none⟩)]) ∧ w' = w.alloc (.cells #[.slice A n C] 22) := by
  have hmf : ∀ (fn : Fn) (first cap : Array Value) (w : World), (Instr.makeFunc fn first cap).run Tryz.prog w = .ok (.func fn first cap) w := fun _ _ _ _ => rfl
  go_enter Tryz.func12, Tryz.ntmps12
  go_wp2
  go_ret
  exact ⟨rfl, rfl⟩

theorem bs_put {W : World} {v : Value} {b : List UInt8} (h : Bs W v b) {B : Nat} {o : Obj} (o' : Obj) (ho : W.heap[B]? = some o) (hc : o.isCells = false) : Bs (W.putObj B o') v b := by
  have hg : Chg (fun k => k = B) W (W.putObj B o') := (Chg.of_grown (grownBy_putObj' W B o')).weak (fun k _ e => by cases e; rfl)
  refine h.keep hg (fun k hk e => ?_)
  subst e
  rcases h with ⟨rfl, _⟩ | ⟨ad, c, rfl, _⟩ | ⟨h0, b', o1, c, rfl, h1, h2, h3⟩
  · cases hk
  · cases hk
  · have hk2 : some b' = some k := bk_blk hk
    cases hk2
    obtain ⟨o2, e1, e2⟩ := cells_of_cell (h3 0 h0)
    rw [ho] at e1
    cases e1
    rw [hc] at e2
    cases e2
theorem hx_stay (l : List UInt8) (B : Nat) (x : Itm × Nat) (t t' : Nat) : Stay B (fun (_ : Unit) W => HxF l x t t' W) :=
  ⟨fun _ A A' h hb => ⟨h.1, Bs.below' h.2.1 hb, h.2.2⟩, fun _ A o o' h ho hc => ⟨h.1, bs_put h.2.1 o' ho hc, h.2.2⟩⟩
theorem keeps_below {W W' : World} (h : Below W.heap.size W W') : KeepsOthers W W' := ⟨h.size, fun k o hk _ => (h.block k (Array.getElem?_eq_some_iff.1 hk).1).trans hk⟩
def ScI (l : List UInt8) (w : World) (t : Nat) (W : World) : Prop := ∃ its els vd ve, Sc l w.heap.size t its els vd ve W ∧ Below w.heap.size w W
def ScX (l : List UInt8) (w : World) (c : Code) (W : World) : Prop := c = .exit 0 ∧ ∃ t its els vd ve, Sc l w.heap.size t its els vd ve W ∧ Below w.heap.size w W ∧ scanF (l.drop t) (lastZ 0 its) = []
theorem below_put {N : Nat} {w W : World} (h : Below N w W) {B : Nat} (o' : Obj) (hB : N ≤ B) (hl : N ≤ W.heap.size) : Below N w (W.putObj B o') := h.grown (grownBy_putObj' W B o') hl (fun k e => by cases e; exact hB)
theorem sci_stay (l : List UInt8) (w : World) : Stay (w.heap.size + 5 + 1) (ScI l w) :=
  ⟨fun t A A' ⟨its, els, vd, ve, h, hb⟩ hB => ⟨its, els, vd, ve, h.more hB, hb.trans (hB.mono hb.size)⟩,
   fun t A o o' ⟨its, els, vd, ve, h, hb⟩ ho hc => ⟨its, els, vd, ve, h.put o' (by omega) (by omega) ho hc, below_put hb o' (by omega) hb.size⟩⟩
theorem scx_stay (l : List UInt8) (w : World) (c : Code) : Stay (w.heap.size + 5 + 1) (fun (_ : Unit) W => ScX l w c W) :=
  ⟨fun _ A A' ⟨hc, t, its, els, vd, ve, h, hb, hn⟩ hB => ⟨hc, t, its, els, vd, ve, h.more hB, hb.trans (hB.mono hb.size), hn⟩,
   fun _ A o o' ⟨hc, t, its, els, vd, ve, h, hb, hn⟩ ho hcc => ⟨hc, t, its, els, vd, ve, h.put o' (by omega) (by omega) ho hcc, below_put hb o' (by omega) hb.size, hn⟩⟩
theorem setCells_size : ∀ (us : List Value) (w : World) (g o : Nat), (w.setCells g o us).heap.size = w.heap.size
  | [], _, _, _ => rfl
  | u :: us, w, g, o => by
    show ((w.setCell ⟨g, o, none⟩ u).setCells g (o + 1) us).heap.size = _
    rw [setCells_size us]
    simp [World.setCell]
theorem round_yes {l b : List UInt8} {w W w1 w2 : World} {t Cd Ce : Nat} {Ad Ae : Option Addr} {its : List It} {els : List El2} {f : Fl} {ps : List Fl} {A1 A2 A3 : Option Addr} {c1 c2 c3 : Nat}
    (hS : Sc l w.heap.size t its els (.slice Ad its.length Cd) (.slice Ae its.length Ce) W) (hB : Below w.heap.size w W) (hB2 : Below W.heap.size W w2) (hB12 : Below w1.heap.size w1 w2) (hS2 : Sc l w.heap.size t its els (.slice Ad its.length Cd) (.slice Ae its.length Ce) w2) (hd2 : w2.heap[w1.heap.size]? = some (.cells #[.int .i64 f.zxid, .int .u8 f.kind, .int .i64 f.session, .int .i64 f.turn, .int .i64 f.xid, .int .i64 f.time, .string (mkS f.path), .slice A1 f.data.length c1, .int .i64 f.owner, .int .i64 f.version, .int .i64 f.cversion, .int .i64 f.timeout, .int .i64 f.err, .int .i64 f.cver, .slice A2 f.mems.length c2, .slice A3 f.np c3] 41 (0, 0)))
    (hF1 : ∀ (w'' : World) (S : Nat → Prop), Chg S w1 w'' → (∀ k, W.heap.size ≤ k → ¬ S k) → DVal w'' f ps A1 c1 A2 c2 A3 c3) (hU : unframe (l.drop t) = some b) (hD : deedOf b = some (f, ps)) (hz : ¬ f.zxid ≤ lastZ 0 its) (hsz : w.heap.size + 7 ≤ W.heap.size) (hsW : W.heap.size ≤ w1.heap.size) (hl : l.length ≤ 4294967296) :
    ∃ g cap w5 w7 g2 cap2 w8, (Builtin.append_ #[24, 24] 24 #[.slice Ad its.length Cd, .slice (some ⟨w2.drew.heap.size, 0, none⟩) 1 1]).run Tryz.prog (w2.drew.alloc (.cells #[.int .i64 0, .int .u8 0, .int .i64 0, .int .i64 0, .int .i64 0, .int .i64 0, .string ⟨#[]⟩, .slice none 0 0, .int .i64 0, .int .i64 0, .int .i64 0, .int .i64 0, .int .i64 0, .int .i64 0, .slice none 0 0, .slice none 0 0] 41)) = .ok (.slice (some ⟨g, 0, none⟩) (its.length + 1) cap) w5 ∧
      w5.there g (its.length * 16) 16 ∧ Boxed w5 w.heap.size 24 (.slice Ad its.length Cd) ∧ (¬ w.heap.size = g) ∧ w7 = (w5.setCells g (its.length * 16) #[.int .i64 f.zxid, .int .u8 f.kind, .int .i64 f.session, .int .i64 f.turn, .int .i64 f.xid, .int .i64 f.time, .string (mkS f.path), .slice A1 f.data.length c1, .int .i64 f.owner, .int .i64 f.version, .int .i64 f.cversion, .int .i64 f.timeout, .int .i64 f.err, .int .i64 f.cver, .slice A2 f.mems.length c2, .slice A3 f.np c3].toList).setCell ⟨w.heap.size, 0, none⟩ (.slice (some ⟨g, 0, none⟩) (its.length + 1) cap) ∧
      (Builtin.append_ #[25, 25] 25 #[.slice Ae its.length Ce, .slice (some ⟨w7.heap.size, 0, none⟩) 1 1]).run Tryz.prog (w7.alloc (.cells #[.int .i64 ((t : Int) + (8 + (b.length : Int)))] 3)) = .ok (.slice (some ⟨g2, 0, none⟩) (its.length + 1) cap2) w8 ∧
      w7.cell? ⟨w.heap.size + 1, 0, none⟩ = some (.slice Ae its.length Ce) ∧ w8.cell? ⟨w.heap.size + 1, 0, none⟩ = some (.slice Ae its.length Ce) ∧ w8.frozen? ⟨w.heap.size + 1, 0, none⟩ = false ∧
      (w8.setCell ⟨w.heap.size + 1, 0, none⟩ (.slice (some ⟨g2, 0, none⟩) (its.length + 1) cap2)).cell? ⟨w1.heap.size, 0, none⟩ = some (.int .i64 f.zxid) ∧ (w8.setCell ⟨w.heap.size + 1, 0, none⟩ (.slice (some ⟨g2, 0, none⟩) (its.length + 1) cap2)).cell? ⟨w.heap.size + 2, 0, none⟩ = some (.int .i64 (lastZ 0 its)) ∧ (w8.setCell ⟨w.heap.size + 1, 0, none⟩ (.slice (some ⟨g2, 0, none⟩) (its.length + 1) cap2)).frozen? ⟨w.heap.size + 2, 0, none⟩ = false ∧ (w8.setCell ⟨w.heap.size + 1, 0, none⟩ (.slice (some ⟨g2, 0, none⟩) (its.length + 1) cap2)).cell? ⟨w.heap.size + 3, 0, none⟩ = some (.int .i64 (t : Int)) ∧ (w8.setCell ⟨w.heap.size + 1, 0, none⟩ (.slice (some ⟨g2, 0, none⟩) (its.length + 1) cap2)).frozen? ⟨w.heap.size + 3, 0, none⟩ = false ∧
      KeepsOthers W (((w8.setCell ⟨w.heap.size + 1, 0, none⟩ (.slice (some ⟨g2, 0, none⟩) (its.length + 1) cap2)).setCell ⟨w.heap.size + 2, 0, none⟩ (.int .i64 f.zxid)).setCell ⟨w.heap.size + 3, 0, none⟩ (.int .i64 ((t : Int) + (8 + (b.length : Int))))) ∧ Below w.heap.size W (((w8.setCell ⟨w.heap.size + 1, 0, none⟩ (.slice (some ⟨g2, 0, none⟩) (its.length + 1) cap2)).setCell ⟨w.heap.size + 2, 0, none⟩ (.int .i64 f.zxid)).setCell ⟨w.heap.size + 3, 0, none⟩ (.int .i64 ((t : Int) + (8 + (b.length : Int))))) ∧ ScI l w (t + (8 + b.length)) (((w8.setCell ⟨w.heap.size + 1, 0, none⟩ (.slice (some ⟨g2, 0, none⟩) (its.length + 1) cap2)).setCell ⟨w.heap.size + 2, 0, none⟩ (.int .i64 f.zxid)).setCell ⟨w.heap.size + 3, 0, none⟩ (.int .i64 ((t : Int) + (8 + (b.length : Int))))) := by
  have hits : its.length ≤ 4294967296 := by
    have h1 := hS2.tt
    have h2 := hS2.tl
    have h3 := catI_ge its
    omega
  obtain ⟨w3, hw3⟩ : ∃ X, X = w2.drew := ⟨_, rfl⟩
  have hc23 : Chg Non w2 w3 := by rw [hw3]; exact Chg.drew _ _
  have hS3 : Sc l w.heap.size t its els (.slice Ad its.length Cd) (.slice Ae its.length Ce) w3 := hS2.keep hc23 (fun _ _ e => e.elim)
  have hd3 : w3.heap[w1.heap.size]? = some (.cells #[.int .i64 f.zxid, .int .u8 f.kind, .int .i64 f.session, .int .i64 f.turn, .int .i64 f.xid, .int .i64 f.time, .string (mkS f.path), .slice A1 f.data.length c1, .int .i64 f.owner, .int .i64 f.version, .int .i64 f.cversion, .int .i64 f.timeout, .int .i64 f.err, .int .i64 f.cver, .slice A2 f.mems.length c2, .slice A3 f.np c3] 41 (0, 0)) := by rw [hw3]; exact hd2
  have hbs : w.heap.size + 7 ≤ w3.heap.size := by
    have h1 := hB2.size
    have h2 : w3.heap.size = w2.heap.size := by rw [hw3]; rfl
    omega
  obtain ⟨g, cap, w5, hap, ht5, ho5, hc5, hg5⟩ := app16 (us := ev2 ⟨(f, ps), A1, c1, A2, c2, A3, c3⟩) hS3.rd hbs hits rfl (ev2_one _)
  obtain ⟨w6, hw6⟩ : ∃ X, X = w5.setCells g (its.length * 16) (ev2 ⟨(f, ps), A1, c1, A2, c2, A3, c3⟩) := ⟨_, rfl⟩
  rw [← hw6] at ho5 hc5
  have hel : els.length = its.length := by rw [← hS3.el, List.length_map]
  have hes : ((endsF 0 its).map nI).length = its.length := by rw [List.length_map, endsF_len]
  have HE1 : EAt w1 (RB w.heap.size (.slice Ad its.length Cd) (.slice Ae its.length Ce)) ⟨(f, ps), A1, c1, A2, c2, A3, c3⟩ := by
    refine EAt.new (W := W) hF1 (fun k e => .inl ?_)
    rcases e with e | e | e
    · omega
    · exact (hS.rd.lt k e).2
    · exact (hS.re.lt k e).2
  have HE3 : EAt w3 (RB w.heap.size (.slice Ad its.length Cd) (.slice Ae its.length Ce)) ⟨(f, ps), A1, c1, A2, c2, A3, c3⟩ := HE1.keep ((Chg.of_below hB12).trans hc23) (fun k _ h => ⟨fun e => e, h⟩)
  have hpd : w1.heap.size < w3.heap.size := heap_lt hd3
  have hgg : w.heap.size + 7 ≤ g := by
    rcases hg5 with e | e
    · exact (hS3.rd.lt g e).1
    · omega
  have hs56 : w5.heap.size ≤ w6.heap.size := by rw [hw6]; exact (setCells_chg (fun k => k = g) g rfl _ w5 _).size
  rw [← hel] at ho5
  obtain ⟨hR7, hb6, hk7, hc7⟩ := hS3.rw'.deed ho5 hc5 hg5 hbs HE3
  rw [hel] at hR7 hk7 hc7
  have hb5 : Boxed w5 w.heap.size 24 (.slice Ad its.length Cd) := by
    have e6 : w6.heap.size = w5.heap.size := by rw [hw6]; exact setCells_size _ _ _ _
    have : w6.heap[w.heap.size]? = w5.heap[w.heap.size]? := by
      have hlt := hb6.lt
      rw [hw6]
      exact (setCells_chg (fun k => k = g) g rfl _ w5 _).block _ (by omega) (by omega)
    exact this.symm.trans hb6
  obtain ⟨w7, hw7⟩ : ∃ X, X = w6.setCell ⟨w.heap.size, 0, none⟩ (.slice (some ⟨g, 0, none⟩) (its.length + 1) cap) := ⟨_, rfl⟩
  rw [← hw7] at hR7 hk7 hc7
  have hbs7 : w.heap.size + 7 ≤ w7.heap.size := Nat.le_trans hbs hc7.size
  have hre7 := hR7.re
  rw [hes] at hre7
  obtain ⟨g2, cap2, w8, hap2, ho8, hc8, hg8⟩ := appI hre7 hbs7 hits ((t : Int) + (8 + (b.length : Int)))
  rw [← hes] at ho8
  obtain ⟨hR9, hb8, hk9, hc9⟩ := hR7.fin ho8 hc8 hg8 hbs7
  rw [hes] at hR9 hk9 hc9
  obtain ⟨w9, hw9⟩ : ∃ X, X = w8.setCell ⟨w.heap.size + 1, 0, none⟩ (.slice (some ⟨g2, 0, none⟩) (its.length + 1) cap2) := ⟨_, rfl⟩
  rw [← hw9] at hR9 hk9 hc9
  obtain ⟨hR11, hk11, hc11⟩ := hR9.last f.zxid ((t : Int) + (8 + (b.length : Int)))
  have hold : ∀ k, k < W.heap.size → k < w1.heap.size := fun k hk => by
    have := hsW
    omega
  have hd7 : w7.heap[w1.heap.size]? = some (.cells #[.int .i64 f.zxid, .int .u8 f.kind, .int .i64 f.session, .int .i64 f.turn, .int .i64 f.xid, .int .i64 f.time, .string (mkS f.path), .slice A1 f.data.length c1, .int .i64 f.owner, .int .i64 f.version, .int .i64 f.cversion, .int .i64 f.timeout, .int .i64 f.err, .int .i64 f.cver, .slice A2 f.mems.length c2, .slice A3 f.np c3] 41 (0, 0)) := (hc7.block _ hpd (fun e => by
    rcases e with e | e
    · have := hold _ (hS.rd.lt _ e).2; omega
    · omega)).trans hd3
  have hd9 : w9.heap[w1.heap.size]? = some (.cells #[.int .i64 f.zxid, .int .u8 f.kind, .int .i64 f.session, .int .i64 f.turn, .int .i64 f.xid, .int .i64 f.time, .string (mkS f.path), .slice A1 f.data.length c1, .int .i64 f.owner, .int .i64 f.version, .int .i64 f.cversion, .int .i64 f.timeout, .int .i64 f.err, .int .i64 f.cver, .slice A2 f.mems.length c2, .slice A3 f.np c3] 41 (0, 0)) := (hc9.block _ (heap_lt hd7) (fun e => by
    rcases e with e | e
    · have := hold _ (hS.re.lt _ e).2; omega
    · omega)).trans hd7
  have k3 : KeepsOthers W w3 := (keeps_below hB2).trans (keeps_chg hc23 (fun _ _ e => e.elim))
  have hNW := hB.size
  have b3 : Below w.heap.size W w3 := (hB2.mono hNW).trans (hc23.below (fun _ e => e.elim) (Nat.le_trans hNW hB2.size))
  have b7 : Below w.heap.size w3 w7 := hc7.below (fun k e => by
    rcases e with e | e
    · have := (hS3.rd.lt k e).1; omega
    · omega) (by omega)
  have b9 : Below w.heap.size w7 w9 := hc9.below (fun k e => by
    rcases e with e | e
    · have := (hR7.re.lt k e).1; omega
    · omega) (by omega)
  have b11 : Below w.heap.size w9 _ := hc11.below (fun k e => by omega) (by have := hc9.size; omega)
  have bb := b3.trans (b7.trans (b9.trans b11))
  have hfin := And.intro (k3.trans (hk7.trans (hk9.trans hk11))) (And.intro bb (show ScI l w (t + (8 + b.length)) _ from ⟨its ++ [(f, ps)], els ++ [⟨(f, ps), A1, c1, A2, c2, A3, c3⟩], _, _, hS3.next hU hD hz rfl hR11, hB.trans bb⟩))
  have q9 := (cells16 hd9).1
  have q7 := hR7.be.cell
  have q9a := hR9.la.cell
  have q9b := hR9.la.frozen
  have q9c := hR9.too.cell
  have q9d := hR9.too.frozen
  rw [hw9] at q9 q9a q9b q9c q9d hfin
  rw [hw3] at hap
  exact ⟨g, cap, w5, w7, g2, cap2, w8, hap, ht5, hb5, by omega, by rw [hw7, hw6]; rfl, hap2, q7, hb8.cell, hb8.frozen, q9, q9a, q9b, q9c, q9d, hfin⟩

theorem scan_end {l : List UInt8} {w W : World} {t D : Nat} {its : List It} {els : List El2} {vd ve : Value} (hS : Sc l w.heap.size t its els vd ve W) (hn : scanF (l.drop t) (lastZ 0 its) = []) (hB : Below w.heap.size w W) (hK : W.drew.heap[D]? = some (.deferred (some []))) (h1 : w.heap.size + 4 ≤ D) (h2 : D < w.heap.size + 7) :
    ∃ (els : List El2) (vd' ve' : Value), Ending.returned (.tuple #[vd, ve, .int .i64 (t : Int)]) = .returned (.tuple #[vd', ve', .int .i64 ((catI (scanF l 0)).length : Nat)]) ∧ els.map El2.p = scanF l 0 ∧
      (W.drew.putObj D (.deferred none)).ownsRow (w.heap.size + 7) 41 16 vd' (scanF l 0).length (evd2 els) ∧ (W.drew.putObj D (.deferred none)).ownsRow (w.heap.size + 7) 3 1 ve' (scanF l 0).length ((endsF 0 (scanF l 0)).map nI) ∧ (∀ e ∈ els, DV (W.drew.putObj D (.deferred none)) e) ∧ Below w.heap.size w (W.drew.putObj D (.deferred none)) := by
  have hd : Sc l w.heap.size t its els vd ve W.drew := hS.keep (Chg.drew Non W) (fun _ _ e => e.elim)
  have hp := hd.put (.deferred none) h1 h2 hK rfl
  have e0 : scanF l 0 = its := by rw [hS.sc, hn, List.append_nil]
  rw [e0]
  refine ⟨els, vd, ve, by rw [← hS.tt], hp.el, hp.rd, hp.re, fun e he => (hp.at' e he).val, below_put hB.drew _ (by omega) hB.size⟩

set_option maxRecDepth 100000 in
set_option maxHeartbeats 8000000 in
theorem scan_any {w : World} {x : Value} {l : List UInt8} (hx : Bs w x l) (hl : l.length ≤ 4294967296) (hL : PA.Laid w) :
    Calls Tryz.prog 5 #[x] w fun e w' => ∃ (els : List El2) (vd ve : Value), e = .returned (.tuple #[vd, ve, .int .i64 ((catI (scanF l 0)).length : Nat)]) ∧ els.map El2.p = scanF l 0 ∧
      w'.ownsRow (w.heap.size + 7) 41 16 vd (scanF l 0).length (evd2 els) ∧ w'.ownsRow (w.heap.size + 7) 3 1 ve (scanF l 0).length ((endsF 0 (scanF l 0)).map nI) ∧ (∀ e ∈ els, DV w' e) ∧ Below w.heap.size w w' := by
  have HX : Hid (Bs w x l) := hx
  obtain ⟨A, C, rfl⟩ := bs_form hx
  clear hx
  have HL : Hid (PA.Laid w) := hL
  clear hL
  refine (callsIn_wide (n := 3)).1 ?_
  refine callsIn_of_wp_marks Tryz.func5 rfl trivial ?_ rfl
  simp only [Tryz.ntmps5, List.size_toArray, List.length_cons, List.length_nil, Nat.reduceAdd, Nat.reduceSub, Array.replicate_succ, Array.replicate_zero, List.push_toArray, List.append_toArray, List.nil_append, List.cons_append]
  gi_wp2
  refine ⟨trivial, (callsIn_wide.2 (frames_any _ _ _ _)).mono ?_⟩
  rintro e w1 ⟨rfl, rfl⟩
  obtain ⟨W0, hW0⟩ : ∃ X, X = ((((w.alloc (.cells #[.slice none 0 0] 24)).alloc (.cells #[.slice none 0 0] 25)).alloc (.cells #[.int .i64 0] 32)).alloc (.cells #[.int .i64 0] 3)).alloc (.cells #[.slice A l.length C] 22) := ⟨_, rfl⟩
  have hs0 : W0.heap.size = w.heap.size + 5 := by rw [hW0]; simp
  have hB0 : Below w.heap.size w W0 := by
    rw [hW0]
    exact (((((Below.refl _ w).alloc (Nat.le_refl _) _).alloc (by simp) _).alloc (by simp; omega) _).alloc (by simp; omega) _).alloc (by simp; omega) _
  have hx0 : Bs W0 (.slice A l.length C) l := Bs.below HX.out hB0 (fun k hk => HX.out.lt hk)
  have hc0 : W0.cell? ⟨w.heap.size + 4, 0, none⟩ = some (.slice A l.length C) := by
    rw [hW0]
    have := Boxed.new ((((w.alloc (.cells #[.slice none 0 0] 24)).alloc (.cells #[.slice none 0 0] 25)).alloc (.cells #[.int .i64 0] 32)).alloc (.cells #[.int .i64 0] 3)) 22 (.slice A l.length C)
    rw [World.size_alloc, World.size_alloc, World.size_alloc, World.size_alloc] at this
    exact this.cell
  have HS0 : Hid (ScI l w 0 W0) := by
    refine ⟨[], [], .slice none 0 0, .slice none 0 0, ⟨rfl, ?_, ?_, World.ownsRow_nil _ _ _ _, World.ownsRow_nil _ _ _ _, fun e he => (nomatch he), ?_, ?_, rfl, by omega, rfl⟩, hB0⟩
    · rw [hW0]; exact ((((Boxed.new w _ _).alloc _).alloc _).alloc _).alloc _
    · rw [hW0]; have := Boxed.new (w.alloc (.cells #[.slice none 0 0] 24)) 25 (.slice none 0 0); rw [World.size_alloc] at this; exact ((this.alloc _).alloc _).alloc _
    · rw [hW0]; have := Boxed.new ((w.alloc (.cells #[.slice none 0 0] 24)).alloc (.cells #[.slice none 0 0] 25)) 32 (.int .i64 0); rw [World.size_alloc, World.size_alloc] at this; exact (this.alloc _).alloc _
    · rw [hW0]; have := Boxed.new (((w.alloc (.cells #[.slice none 0 0] 24)).alloc (.cells #[.slice none 0 0] 25)).alloc (.cells #[.int .i64 0] 32)) 3 (.int .i64 0); rw [World.size_alloc, World.size_alloc, World.size_alloc] at this; exact this.alloc _
  have hsq := frames1_seq (n := 3 - 1) (n0 := w.heap.size) (bb := w.heap.size + 4) (by omega) (by omega) (by omega) hc0 hx0 (fun k hk => HX.out.lt hk)
  gi_wp2
  simp only [Nat.add_assoc, Nat.reduceAdd]
  rw [← hW0]
  refine range_law (Q := _) (n := 3) (n0 := w.heap.size) (gf := 20) (lb := #[.pointer (some ⟨w.heap.size + 4, 0, none⟩)]) rfl (enters_of Tryz.func20 (by kernel_rfl) rfl) hsq (by omega) (fun _ => rfl) (fun x s s' => hx_stay l _ x s s') (ScI l w) (ScX l w) (by rw [hs0]; exact sci_stay l w) (fun c => by rw [hs0]; exact scx_stay l w c) HS0.out
    (fun x => { tmps := #[.slice A l.length C, undef, .slice none 0 0, .slice none 0 0, .int .i64 0, .pointer (some ⟨w.heap.size, 0, none⟩), .pointer (some ⟨w.heap.size + 1, 0, none⟩), .pointer (some ⟨w.heap.size + 2, 0, none⟩), .pointer (some ⟨w.heap.size + 3, 0, none⟩), x.1.v, .int .i64 x.2, undef, undef, .slice A l.length C, .func (.func 20) #[] #[.pointer (some ⟨w.heap.size + 4, 0, none⟩)], x.1.v, .int .i64 x.2, undef, undef, undef, undef, undef, undef, undef, undef, undef, undef, undef, undef, undef, undef, undef, undef, undef, undef, undef, undef, undef, undef, undef, undef, undef, undef, undef, undef, undef], defers := [] }) ?assign ?body ?done ?stop
  case assign =>
    intro L x W K hK
    unfold encF
    gi_wp2
    exact hK
  case body =>
    rintro L t t' ⟨⟨v, b⟩, n⟩ W hsz ⟨its, els, vd, ve, hS, hB⟩ ⟨hu, hv, hn, ht'⟩
    dsimp only at hu hv hn ht' ⊢
    have HV : Hid (Bs W v b) := hv
    obtain ⟨AX, CX, rfl⟩ := bs_form hv
    have hbl := (unframe_some hu).2.2.2.2
    have hg := dgetf_any hv (by omega) (HL.out.below hB)
    have HS : Hid (Sc l w.heap.size t its els vd ve W) := hS
    have HB : Hid (Below w.heap.size w W) := hB
    have HU : Hid (unframe (l.drop t) = some b) := hu
    clear hv hS hB hu hsq hx0 hc0 HS0 hB0
    subst hn
    cases hd : deedOf b with
    | none =>
      rw [hd] at hg
      gi_wp2
      refine ⟨trivial, (CallsIn.inRound L (callsIn_wide.2 hg)).mono ?_⟩
      clear hg
      rintro e w1 ⟨rfl, hB1⟩
      have HB1 : Hid (Below W.heap.size W w1) := hB1
      clear hB1
      gi_wp2
      have hb2 : Below W.heap.size W (w1.alloc (.cells #[.int .i64 0, .int .u8 0, .int .i64 0, .int .i64 0, .int .i64 0, .int .i64 0, .string ⟨#[]⟩, .slice none 0 0, .int .i64 0, .int .i64 0, .int .i64 0, .int .i64 0, .int .i64 0, .int .i64 0, .slice none 0 0, .slice none 0 0] 41)) := HB1.out.alloc HB1.out.size _
      exact ⟨keeps_below hb2, rfl, t, its, els, vd, ve, HS.out.more hb2, HB.out.trans (hb2.mono HB.out.size), scanF_bad HU.out hd _⟩
    | some p =>
      rw [hd] at hg
      obtain ⟨f, ps⟩ := p
      have HD : Hid (deedOf b = some (f, ps)) := hd
      clear hd
      gi_wp2
      refine ⟨trivial, (CallsIn.inRound L (callsIn_wide.2 hg)).mono ?_⟩
      clear hg
      rintro e w1 ⟨A1, c1, A2, c2, A3, c3, rfl, -, hB1, hF1⟩
      have HF1 : Hid (∀ (w'' : World) (S : Nat → Prop), Chg S w1 w'' → (∀ k, W.heap.size ≤ k → ¬ S k) → DVal w'' f ps A1 c1 A2 c2 A3 c3) := hF1
      obtain ⟨w2, hw2⟩ : ∃ X, X = w1.alloc (.cells #[.int .i64 f.zxid, .int .u8 f.kind, .int .i64 f.session, .int .i64 f.turn, .int .i64 f.xid, .int .i64 f.time, .string (mkS f.path), .slice A1 f.data.length c1, .int .i64 f.owner, .int .i64 f.version, .int .i64 f.cversion, .int .i64 f.timeout, .int .i64 f.err, .int .i64 f.cver, .slice A2 f.mems.length c2, .slice A3 f.np c3] 41) := ⟨_, rfl⟩
      have HB12 : Hid (Below w1.heap.size w1 w2) := by rw [hw2]; exact (Below.refl _ _).alloc (Nat.le_refl _) _
      have HB2 : Hid (Below W.heap.size W w2) := hB1.trans (HB12.out.mono hB1.size)
      have HS2 : Hid (Sc l w.heap.size t its els vd ve w2) := HS.out.more HB2.out
      have hd2 : w2.heap[w1.heap.size]? = some (.cells #[.int .i64 f.zxid, .int .u8 f.kind, .int .i64 f.session, .int .i64 f.turn, .int .i64 f.xid, .int .i64 f.time, .string (mkS f.path), .slice A1 f.data.length c1, .int .i64 f.owner, .int .i64 f.version, .int .i64 f.cversion, .int .i64 f.timeout, .int .i64 f.err, .int .i64 f.cver, .slice A2 f.mems.length c2, .slice A3 f.np c3] 41 (0, 0)) := by rw [hw2]; exact heap_alloc_new w1 _
      have hz := (cells16 hd2).1
      have hla : w2.cell? ⟨w.heap.size + 2, 0, none⟩ = some (.int .i64 (lastZ 0 its)) := HS2.out.la.cell
      have HD2 : Hid _ := hd2
      have hs1 := hB1.size
      clear hB1 hF1 hd2
      rw [hw2] at hz hla
      by_cases hz' : f.zxid ≤ lastZ 0 its
      · gi_wp2
        rw [← hw2]
        exact ⟨keeps_below HB2.out, rfl, t, its, els, vd, ve, HS2.out, HB.out.trans (HB2.out.mono HB.out.size), scanF_low HU.out HD.out hz'⟩
      · obtain ⟨Ad, Cd, rfl⟩ := owns_form' HS2.out.rd
        obtain ⟨Ae, Ce, rfl⟩ := owns_form' HS2.out.re
        obtain ⟨g, cap, w5, w7, g2, cap2, w8, hap, ht5, hb5, hgN, h7, hap2, q7, q8a, q8b, q9, q9a, q9b, q9c, q9d, hfin⟩ := round_yes (ps := ps) HS.out HB.out HB2.out HB12.out HS2.out HD2.out HF1.out HU.out HD.out hz' (by omega) hs1 hl
        have HFIN : Hid _ := hfin
        have HAP : Hid _ := And.intro hap (And.intro ht5 (And.intro hb5 (And.intro hgN h7)))
        have HAP2 : Hid _ := And.intro hap2 (And.intro q7 (And.intro q8a (And.intro q8b (And.intro q9 (And.intro q9a (And.intro q9b (And.intro q9c q9d)))))))
        have hbd : w2.cell? ⟨w.heap.size, 0, none⟩ = some (.slice Ad its.length Cd) := HS2.out.bd.cell
        have HBD : Hid _ := hbd
        clear hfin hap ht5 hb5 hgN h7 hap2 q7 q8a q8b q9 q9a q9b q9c q9d
        rw [hw2] at hbd
        gi_wp2
        rw [← hw2]
        clear hz hla hbd hz' hw2
        refine reg9 HBD.out HS2.out.bd.lt HD2.out HAP.out.1 HAP.out.2.1 HAP.out.2.2.1 HAP.out.2.2.2.1 HAP.out.2.2.2.2 ?_
        obtain ⟨hap2, q7, q8a, q8b, q9, q9a, q9b, q9c, q9d⟩ := HAP2.out
        clear HAP HAP2 HBD
        gi_wp2_with (gi_at_builtin; refine wpListIn_run_append rfl (.tmp 36) (.tmp 38) 25 rfl rfl rfl hap2 ?_)
        rw [ht']
        exact HFIN.out
  case done =>
    rintro D s W hD hf ⟨its, els, vd, ve, hS, hB⟩ hK
    have hn : scanF (l.drop s) (lastZ 0 its) = [] := scanF_none hf _
    clear hsq hc0 hx0 HS0 hB0 hW0
    have c1 := hS.bd.cell
    have c2 := hS.be.cell
    have c3 := hS.too.cell
    have HSS : Hid (Sc l w.heap.size s its els vd ve W) := hS
    have HB : Hid (Below w.heap.size w W) := hB
    have hKd : W.drew.heap[D]? = some (.deferred (some [])) := hK
    clear hS hB
    gi_wp2
    gi_region
    gi_wp2
    refine ⟨by simp, .inl ⟨_, _, rfl, run_takeDeferred hKd, ?_⟩⟩
    refine ⟨.tuple #[vd, ve, .int .i64 s], by simp [results, Tryz.results5, go_sem], ?_⟩
    exact scan_end HSS.out hn HB.out hKd (by omega) (by omega)
  case stop =>
    rintro D c W hD ⟨rfl, s, its, els, vd, ve, hS, hB, hn⟩ hK
    clear hsq hc0 hx0 HS0 hB0 hW0
    have c1 := hS.bd.cell
    have c2 := hS.be.cell
    have c3 := hS.too.cell
    have HSS : Hid (Sc l w.heap.size s its els vd ve W) := hS
    have HB : Hid (Below w.heap.size w W) := hB
    have hKd : W.drew.heap[D]? = some (.deferred (some [])) := hK
    clear hS hB
    gi_wp2
    gi_region
    gi_wp2
    refine ⟨by simp, .inl ⟨_, _, rfl, run_takeDeferred hKd, ?_⟩⟩
    refine ⟨.tuple #[vd, ve, .int .i64 s], by simp [results, Tryz.results5, go_sem], ?_⟩
    exact scan_end HSS.out hn HB.out hKd (by omega) (by omega)
end Go.Proofs.YtaeoafedfgbcaaaGreatDoor.DD
