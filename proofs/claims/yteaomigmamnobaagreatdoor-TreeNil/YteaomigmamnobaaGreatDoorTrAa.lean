/- What awake of the trees calls: a deed that creates, rows of one, a deed applied. -/
import Derived.Test.YteaomigmamnobaaGreatDoorTrSy
import Derived.Test.YteaomigmamnobaaGreatDoorTrL
import Derived.Test.YteaomigmamnobaaGreatDoorTrU
import Derived.Test.YteaomigmamnobaaGreatDoorTrW
import Derived.Test.YteaomigmamnobaaGreatDoorTrZ
import Derived.Lib.SlBytesConst
namespace Go.Proofs.YteaomigmamnobaaGreatDoor
set_option linter.unusedSimpArgs false
set_option linter.unusedVariables false
open Go.RowKit Go.MapKept
set_option linter.unusedVariables false
set_option linter.unusedSimpArgs false

theorem infoD16 : (Tryz.prog.info? 31).map (·.size) = some 16 := by kernel_rfl
abbrev zeroD : List Value := [.int .i64 0, .int .u8 0, .int .i64 0, .int .i64 0, .int .i64 0, .int .i64 0, .string ⟨#[]⟩, .slice none 0 0, .int .i64 0, .int .i64 0, .int .i64 0, .int .i64 0, .int .i64 0, .int .i64 0, .slice none 0 0, .slice none 0 0]
def fC : Fl := ⟨5, 1, 0, 0, 0, 7, [47, 97], [120], 0, 0, 1, 0, 0, 0, [], 0⟩
def fO : Fl := ⟨8, 4, 0, 3, 0, 0, [], [], 0, 0, 0, 10, 0, 0, [], 0⟩
def fS : Fl := ⟨9, 6, 8, 4, 0, 0, [], [], 0, 0, 0, 0, 0, 0, [], 0⟩
theorem cells_chg (b : Nat) : ∀ (vs : List Value) (o : Nat) (w : World), Chg (fun k => k = b) w (w.setCells b o vs)
  | [], _, _ => Chg.refl _ _
  | v :: r, o, w => (Chg.setCell (S := fun k => k = b) w ⟨b, o, none⟩ v rfl).trans (cells_chg b r (o + 1) _)
set_option maxRecDepth 100000 in
set_option maxHeartbeats 2000000 in
theorem mk_any (w : World) : Calls Tryz.prog 13 #[.int .i64 5, .string (mkS [47, 97]), .int .i64 0, .int .i64 1] w fun e w' => e = .returned (.agg (dA fC (some ⟨w.heap.size + 1, 0, none⟩) none none 1 0 0)) ∧ Bs w' (.slice (some ⟨w.heap.size + 1, 0, none⟩) 1 1) [120] ∧ Below w.heap.size w w' := by
  have hth : ((w.alloc (.cells zeroD.toArray 31)).alloc (.cells #[.int .u8 120] 5 (1, 2))).there w.heap.size 0 16 := by
    refine there_of (cs := zeroD) (T := 31) ?_
    rw [(lay1 (w.alloc (.cells zeroD.toArray 31)) _).block w.heap.size (by simp)]
    exact heap_alloc_new w _
  have hbs0 : Bs ((w.alloc (.cells zeroD.toArray 31)).alloc (.cells #[.int .u8 120] 5 (1, 2))) (.slice (some ⟨w.heap.size + 1, 0, none⟩) 1 1) [120] := by
    refine .inr (.inr ⟨by simp, w.heap.size + 1, 0, 1, rfl, by simp, by simp, fun j hj => ?_⟩)
    have hh := heap_alloc_new (w.alloc (.cells zeroD.toArray 31)) (.cells #[.int .u8 120] 5 (1, 2))
    have e : (w.alloc (.cells zeroD.toArray 31)).heap.size = w.heap.size + 1 := by simp
    rw [e] at hh
    have : j = 0 := by simpa using hj
    subst this
    exact cell_at hh 0
  have hB0 : Below w.heap.size w ((w.alloc (.cells zeroD.toArray 31)).alloc (.cells #[.int .u8 120] 5 (1, 2))) := (lay1 w _).trans ((lay1 _ _).mono (by simp))
  have hone : (dA fC (some ⟨w.heap.size + 1, 0, none⟩) none none 1 0 0).all (·.oneCell') = true := by simp [fC, Value.oneCell']
  have hinf := infoD16
  have hcv : (convert 24 24 (.slice (some ⟨w.heap.size + 1, 0, none⟩) 1 1)).run Tryz.prog ((w.alloc (.cells zeroD.toArray 31)).alloc (.cells #[.int .u8 120] 5)) = .ok (.slice (some ⟨w.heap.size + 1, 0, none⟩) 1 1) ((w.alloc (.cells zeroD.toArray 31)).alloc (.cells #[.int .u8 120] 5 (1, 2))) := by
    have := Go.Lib.run_convert_bytes_const (P := Tryz.prog) (w.alloc (.cells zeroD.toArray 31)) 24 5 #[.int .u8 120] 1 1 Tryz.underlying24 Tryz.underlying5
    simpa using this
  have HF : Hid (((w.alloc (.cells zeroD.toArray 31)).alloc (.cells #[.int .u8 120] 5 (1, 2))).there w.heap.size 0 16 ∧ Bs ((w.alloc (.cells zeroD.toArray 31)).alloc (.cells #[.int .u8 120] 5 (1, 2))) (.slice (some ⟨w.heap.size + 1, 0, none⟩) 1 1) [120] ∧ Below w.heap.size w ((w.alloc (.cells zeroD.toArray 31)).alloc (.cells #[.int .u8 120] 5 (1, 2)))) := ⟨hth, hbs0, hB0⟩
  simp only [fC, zeroD, List.length_cons, List.length_nil] at hth hone
  simp only [zeroD] at hcv
  clear hbs0 hB0
  go_enter Tryz.func13, Tryz.ntmps13
  go_wp2_with (refine wpList_store_mid rfl 31 _ _ rfl w.heap.size 0 #[.int .i64 5, .int .u8 1, .int .i64 0, .int .i64 0, .int .i64 0, .int .i64 7, .string (mkS [47, 97]), .slice (some ⟨w.heap.size + 1, 0, none⟩) 1 1, .int .i64 0, .int .i64 0, .int .i64 1, .int .i64 0, .int .i64 0, .int .i64 0, .slice none 0 0, .slice none 0 0] rfl rfl hth hinf hone ?_)
  refine bodyPost_ret (tresults_row _ _ Tryz.results13 w.heap.size rfl (dA fC (some ⟨w.heap.size + 1, 0, none⟩) none none 1 0 0).toList _ ?_ Tryz.underlying31 rfl (by kernel_rfl)) rfl ⟨rfl, ?_, ?_⟩
  · exact World.rangeAt_setCells_same _ _ _ (dA fC (some ⟨w.heap.size + 1, 0, none⟩) none none 1 0 0).toList HF.out.1
  · exact Bs.keep HF.out.2.1 (cells_chg w.heap.size (dA fC (some ⟨w.heap.size + 1, 0, none⟩) none none 1 0 0).toList 0 _) (fun k hk e => by simp [bk] at hk; omega)
  · exact below_cells (Nat.le_refl _) _ _ _ HF.out.2.2

/- One text in each of two rows, the same. -/
set_option maxRecDepth 100000 in
theorem texts_one {w : World} {ga gb ca cb : Nat} {s : List UInt8} (ha : w.cell? ⟨ga, 0, none⟩ = some (.string (mkS s))) (hb : w.cell? ⟨gb, 0, none⟩ = some (.string (mkS s))) :
    Calls Tryz.prog 15 #[.slice (some ⟨ga, 0, none⟩) 1 ca, .slice (some ⟨gb, 0, none⟩) 1 cb] w fun e w' => e = .returned (.bool true) ∧ ∃ q, w' = w.drewN q := by
  go_enter Tryz.func15, Tryz.ntmps15
  go_wp2
  go_loopw [5] (fun i wr => ∃ (k q : Nat), k ≤ 1 ∧ i = .int .i64 k ∧ wr = w.drewN q) (fun i _ => 1 - (intOf i).toNat)
  case atStart => exact ⟨0, 0, Nat.zero_le _, rfl, rfl⟩
  case round =>
    obtain ⟨k, q, hk, rfl, rfl⟩ := hrel
    by_cases hlt : k < 1
    · obtain rfl : k = 0 := by omega
      go_wp2_with fail
      go_quiet (fail)
      go_wp2
      go_roundw
      case rel => exact ⟨1, q + nq, by omega, by go_num, rfl⟩
      case measure => simp [intOf]
    · obtain rfl : k = 1 := by omega
      go_wp2
      go_ret
      exact ⟨rfl, q, rfl⟩
/- One sitting in each of two rows, the same. -/
set_option maxRecDepth 100000 in
theorem sits_one {w : World} {ga gb ca cb : Nat} {x y z : Int} (a0 : w.cell? ⟨ga, 0, none⟩ = some (.int .i64 x)) (a1 : w.cell? ⟨ga, 1, none⟩ = some (.int .i64 y)) (a2 : w.cell? ⟨ga, 2, none⟩ = some (.int .i64 z)) (b0 : w.cell? ⟨gb, 0, none⟩ = some (.int .i64 x)) (b1 : w.cell? ⟨gb, 1, none⟩ = some (.int .i64 y)) (b2 : w.cell? ⟨gb, 2, none⟩ = some (.int .i64 z)) :
    Calls Tryz.prog 17 #[.slice (some ⟨ga, 0, none⟩) 1 ca, .slice (some ⟨gb, 0, none⟩) 1 cb] w fun e w' => e = .returned (.bool true) ∧ ∃ q, w' = w.drewN q := by
  go_enter Tryz.func17, Tryz.ntmps17
  go_wp2
  go_loopw [5] (fun i wr => ∃ (k q : Nat), k ≤ 1 ∧ i = .int .i64 k ∧ wr = w.drewN q) (fun i _ => 1 - (intOf i).toNat)
  case atStart => exact ⟨0, 0, Nat.zero_le _, rfl, rfl⟩
  case round =>
    obtain ⟨k, q, hk, rfl, rfl⟩ := hrel
    by_cases hlt : k < 1
    · obtain rfl : k = 0 := by omega
      go_wp2_with fail
      go_quiet (fail)
      go_wp2
      go_roundw
      case rel => exact ⟨1, q + nq, by omega, by go_num, rfl⟩
      case measure => simp [intOf]
    · obtain rfl : k = 1 := by omega
      go_wp2
      go_ret
      exact ⟨rfl, q, rfl⟩

/- A deed without parts and members, applied, if it is right. -/
theorem apply_leaf {w : World} {t m n : Nat} {N : List Fi} {S : List Si.Fi} (h : Tr w t m n N S) (hL : PA.Laid w) (f : Fl) (hk : f.kind = 1 ∨ f.kind = 4 ∨ f.kind = 6) (hm : f.mems = []) (hn : f.np = 0) (hr : rightD f [] = true) (hfit : DedFit f []) (hp : f.path.length ≤ 281474976710656) {A1 : Option Addr} {c1 : Nat} (hx : Bs w (.slice A1 f.data.length c1) f.data) (hl : f.data.length ≤ 1000) :
    Calls Tryz.prog 12 #[.pointer (some ⟨t, 0, none⟩), .agg (dA f A1 none none c1 0 0)] w fun e w' => e = .returned (.tuple #[]) ∧ Tr w' t m n (doN f N) (turnS f.session f.turn (doS f S)) ∧ Chg (Mn m n) w w' := by
  have := apply_core (N' := doN f N) (S' := doS f S) h hL f [] (A1 := A1) (A2 := none) (A3 := none) (c1 := c1) (c2 := 0) (c3 := 0) ⟨hx, by rw [hm]; exact .inl ⟨rfl, rfl⟩, by rw [hn]; exact .inl ⟨rfl, rfl⟩⟩ hfit (fun _ w' hB => by
    have h' := h.below hB
    have hL' := hL.below hB
    have hx' := Bs.below hx hB (fun _ hk => hx.lt hk)
    rcases hk with hk | hk | hk
    · exact do_create h' hL' f hk hp hx' hl
    · exact do_open h' hL' f hk hp hx' hl
    · exact do_sync h' hL' f hk hp hx' hl)
  rw [hr] at this
  simpa only [if_true] using this
theorem fC_fit : DedFit fC [] := ⟨by constructor <;> (try simp [fC, I64]) <;> decide, by simp, rfl⟩
theorem fC_right : rightD fC [] = true := by decide +kernel
theorem fO_right : rightD fO [] = true := by decide +kernel
theorem fS_right : rightD fS [] = true := by decide +kernel
end Go.Proofs.YteaomigmamnobaaGreatDoor
