/- The walk of putFields: None. -/
import Derived.Test.YtmojplgoohnmdaaDoorAkT
namespace Go.Proofs.YtmojplgoohnmdaaDoor.AK
set_option linter.unusedVariables false
open Go.RowKit
set_option linter.unusedVariables false

set_option maxRecDepth 100000 in
set_option maxHeartbeats 8000000 in
theorem putFNone {w : World} {base g : Nat} {q : Option Nat} {l : List UInt8} (h : WrAt w base g q l) (hg : base ≤ g) (hl : l.length ≤ 800000) (f : Qf) (hf : QFit f) (hw : Within f) (A1 A2 A3 : Option Addr) (c1 c2 c3 : Nat) (hL : QL w) (hr : QRest w base f A1 c1 A2 c2) (b0 : (bits BinOp.and IntKind.u16 (kQ f.kind.toNat) 1 != 0) = false) (b1 : (bits BinOp.and IntKind.u16 (kQ f.kind.toNat) 2 != 0) = false) (b2 : (bits BinOp.and IntKind.u16 (kQ f.kind.toNat) 4 != 0) = false) (b3 : (bits BinOp.and IntKind.u16 (kQ f.kind.toNat) 8 != 0) = false) (b4 : (bits BinOp.and IntKind.u16 (kQ f.kind.toNat) 16 != 0) = false) (b5 : (bits BinOp.and IntKind.u16 (kQ f.kind.toNat) 32 != 0) = false) (b6 : (bits BinOp.and IntKind.u16 (kQ f.kind.toNat) 64 != 0) = false) (b7 : (bits BinOp.and IntKind.u16 (kQ f.kind.toNat) 128 != 0) = false) (b8 : (bits BinOp.and IntKind.u16 (kQ f.kind.toNat) 256 != 0) = false) (b9 : (bits BinOp.and IntKind.u16 (kQ f.kind.toNat) 512 != 0) = false) (b10 : (bits BinOp.and IntKind.u16 (kQ f.kind.toNat) 1024 != 0) = false) :
    Calls Tryd.prog 29 #[.pointer (some ⟨g, 0, none⟩), .agg #[.int .u8 f.kind, .int .i64 f.xid, .int .i64 f.session, .int .i64 f.turn, .string (mkS f.path), .slice A1 f.data.length c1, .int .i64 f.flags, .int .i64 f.version, .bool f.watch, .int .u8 f.sort, .int .i64 f.last, .int .i64 f.timeout, .int .i64 f.frm, .slice A2 f.mems.length c2, .slice A3 f.np c3]] w fun e w' => e = .returned (.tuple #[]) ∧ ∃ q', WrAt w' base g q' (l ++ ([])) ∧ Put g q w w' q' := by
  have HF : Hid (QFit f) := hf
  have HWI : Hid (Within f) := hw
  have hgl : g < w.heap.size := RowAt.lt h
  have hql := RowAt.qlt h
  obtain ⟨w1, hw1⟩ : ∃ X, X = w.alloc (.cells #[.int .u8 f.kind, .int .i64 f.xid, .int .i64 f.session, .int .i64 f.turn, .string (mkS f.path), .slice A1 f.data.length c1, .int .i64 f.flags, .int .i64 f.version, .bool f.watch, .int .u8 f.sort, .int .i64 f.last, .int .i64 f.timeout, .int .i64 f.frm, .slice A2 f.mems.length c2, .slice A3 f.np c3] 29) := ⟨_, rfl⟩
  have hB1 : Below w.heap.size w w1 := by rw [hw1]; exact (Below.refl _ _).alloc (Nat.le_refl _) _
  have HO1 : Hid (Own w1 w.heap.size (.cells #[.int .u8 f.kind, .int .i64 f.xid, .int .i64 f.session, .int .i64 f.turn, .string (mkS f.path), .slice A1 f.data.length c1, .int .i64 f.flags, .int .i64 f.version, .bool f.watch, .int .u8 f.sort, .int .i64 f.last, .int .i64 f.timeout, .int .i64 f.frm, .slice A2 f.mems.length c2, .slice A3 f.np c3] 29 (0, 0)) g q) := ⟨by rw [hw1]; exact heap_alloc_new w _, by omega, fun e => by have := (hql _ e).2; omega⟩
  have HP1 : Hid (Put g q w w1 q) := by rw [hw1]; exact Put.alloc _ _ _ _
  have HW1 : Hid (WrAt w1 base g q l) := by rw [hw1]; exact RowAt.alloc h _
  have HL1 : Hid (l.length ≤ 800000) := hl
  have hbB : base ≤ w.heap.size := by obtain ⟨v, _, _, _, _, hb⟩ := h; exact hb
  have HR1 : Hid (QRest w1 base f A1 c1 A2 c2) := hr.below (hB1.mono hbB)
  have ho := of_any f.kind hf.kind w1 (hL.below hB1)
  have v0 := have_b (kQ f.kind.toNat) 1 false b0
  have v1 := have_b (kQ f.kind.toNat) 2 false b1
  have v2 := have_b (kQ f.kind.toNat) 4 false b2
  have v3 := have_b (kQ f.kind.toNat) 8 false b3
  have v4 := have_b (kQ f.kind.toNat) 16 false b4
  have v5 := have_b (kQ f.kind.toNat) 32 false b5
  have v6 := have_b (kQ f.kind.toNat) 64 false b6
  have v7 := have_b (kQ f.kind.toNat) 128 false b7
  have v8 := have_b (kQ f.kind.toNat) 256 false b8
  have v9 := have_b (kQ f.kind.toNat) 512 false b9
  have v10 := have_b (kQ f.kind.toNat) 1024 false b10
  generalize kQ f.kind.toNat = T at ho v0 v1 v2 v3 v4 v5 v6 v7 v8 v9 v10
  rw [hw1] at ho
  clear h hf hgl hql hl hL hr hB1 hbB hw b0 b1 b2 b3 b4 b5 b6 b7 b8 b9 b10
  go_enter Tryd.func29, Tryd.ntmps29
  go_wp2_with fail
  refine ho.mono ?_
  rintro e w' ⟨rfl, hw'⟩
  rw [← hw1] at hw'
  subst hw'
  clear ho hw1
  obtain ⟨z0, z1, z2, z3, z4, z5, z6, z7, z8, z9, z10, z11, z12, z13, z14⟩ := cells15 HO1.out.at'
  go_wp2_with fail
  refine (v0 _).mono ?_
  rintro e wv ⟨rfl, hwv⟩
  subst hwv
  clear v0
  go_wp2_with fail
  refine (v1 _).mono ?_
  rintro e wv ⟨rfl, hwv⟩
  subst hwv
  clear v1
  go_wp2_with fail
  refine (v2 _).mono ?_
  rintro e wv ⟨rfl, hwv⟩
  subst hwv
  clear v2
  go_wp2_with fail
  refine (v3 _).mono ?_
  rintro e wv ⟨rfl, hwv⟩
  subst hwv
  clear v3
  go_wp2_with fail
  refine (v4 _).mono ?_
  rintro e wv ⟨rfl, hwv⟩
  subst hwv
  clear v4
  go_wp2_with fail
  refine (v5 _).mono ?_
  rintro e wv ⟨rfl, hwv⟩
  subst hwv
  clear v5
  go_wp2_with fail
  refine (v6 _).mono ?_
  rintro e wv ⟨rfl, hwv⟩
  subst hwv
  clear v6
  go_wp2_with fail
  refine (v7 _).mono ?_
  rintro e wv ⟨rfl, hwv⟩
  subst hwv
  clear v7
  go_wp2_with fail
  refine (v8 _).mono ?_
  rintro e wv ⟨rfl, hwv⟩
  subst hwv
  clear v8
  go_wp2_with fail
  refine (v9 _).mono ?_
  rintro e wv ⟨rfl, hwv⟩
  subst hwv
  clear v9
  go_wp2_with fail
  refine (v10 _).mono ?_
  rintro e wv ⟨rfl, hwv⟩
  subst hwv
  clear v10
  go_wp2
  go_end0
  exact ⟨rfl, _, by simpa using HW1.out, HP1.out⟩
end Go.Proofs.YtmojplgoohnmdaaDoor.AK
