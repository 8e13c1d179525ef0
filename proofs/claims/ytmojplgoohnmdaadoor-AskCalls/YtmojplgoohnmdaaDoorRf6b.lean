/- The document's own fits over calls. -/
import Derived.Test.YtmojplgoohnmdaaDoorRf6k1
import Derived.Test.YtmojplgoohnmdaaDoorRf6k2
import Derived.Test.YtmojplgoohnmdaaDoorRf6k3
namespace Go.Proofs.YtmojplgoohnmdaaDoor.AK
set_option linter.unusedSimpArgs false
set_option linter.unusedVariables false
open Go.RowKit
set_option linter.unusedVariables false
set_option linter.unusedSimpArgs false

theorem docFit1 (f : Qf) (e : f.kind = 1) : docFit f = decide (f.path.length = 0 ∧ f.data.length = 0 ∧ f.flags = 0 ∧ f.version = 0 ∧ f.watch = false ∧ f.sort = 0 ∧ f.frm = 0 ∧ f.mems.length = 0 ∧ f.np = 0 ∧ f.path.length ≤ 220 ∧ f.data.length ≤ 1000 ∧ 0 ≤ f.flags ∧ f.flags ≤ 3 ∧ -1 ≤ f.version ∧ 0 ≤ f.last ∧ 0 ≤ f.frm ∧ f.mems.length ≤ 7 ∧ 1 ≤ f.timeout ∧ f.timeout ≤ 1000) := by
  have hpe : decide (f.path = []) = decide (f.path.length = 0) := by cases f.path <;> simp
  unfold docFit docZero docZero2 docLim docEnd
  rw [hpe, e]
  obtain ⟨b0, b1, b2, b3, b4, b5, b6, b7, b8, b9, b10, b11, b12⟩ := bits1
  simp only [b0, b1, b2, b3, b4, b5, b6, b7, b8, b9, b10]
  generalize f.path.length = pl
  generalize f.data.length = dl
  generalize f.mems.length = ml
  generalize f.np = nq
  generalize f.watch = wa
  rw [Bool.eq_iff_iff]
  cases wa <;> simp [okQ] <;> omega
theorem docFit2 (f : Qf) (e : f.kind = 2) : docFit f = decide (f.path.length = 0 ∧ f.data.length = 0 ∧ f.flags = 0 ∧ f.version = 0 ∧ f.watch = false ∧ f.sort = 0 ∧ f.last = 0 ∧ f.timeout = 0 ∧ f.frm = 0 ∧ f.mems.length = 0 ∧ f.np = 0 ∧ f.path.length ≤ 220 ∧ f.data.length ≤ 1000 ∧ 0 ≤ f.flags ∧ f.flags ≤ 3 ∧ -1 ≤ f.version ∧ 0 ≤ f.last ∧ 0 ≤ f.frm ∧ f.mems.length ≤ 7) := by
  have hpe : decide (f.path = []) = decide (f.path.length = 0) := by cases f.path <;> simp
  unfold docFit docZero docZero2 docLim docEnd
  rw [hpe, e]
  obtain ⟨b0, b1, b2, b3, b4, b5, b6, b7, b8, b9, b10, b11, b12⟩ := bits2
  simp only [b0, b1, b2, b3, b4, b5, b6, b7, b8, b9, b10]
  generalize f.path.length = pl
  generalize f.data.length = dl
  generalize f.mems.length = ml
  generalize f.np = nq
  generalize f.watch = wa
  rw [Bool.eq_iff_iff]
  cases wa <;> simp [okQ] <;> omega
theorem docFit3 (f : Qf) (e : f.kind = 3) : docFit f = decide (f.version = 0 ∧ f.watch = false ∧ f.sort = 0 ∧ f.last = 0 ∧ f.timeout = 0 ∧ f.frm = 0 ∧ f.mems.length = 0 ∧ f.np = 0 ∧ f.path.length ≤ 220 ∧ f.data.length ≤ 1000 ∧ 0 ≤ f.flags ∧ f.flags ≤ 3 ∧ -1 ≤ f.version ∧ 0 ≤ f.last ∧ 0 ≤ f.frm ∧ f.mems.length ≤ 7) := by
  have hpe : decide (f.path = []) = decide (f.path.length = 0) := by cases f.path <;> simp
  unfold docFit docZero docZero2 docLim docEnd
  rw [hpe, e]
  obtain ⟨b0, b1, b2, b3, b4, b5, b6, b7, b8, b9, b10, b11, b12⟩ := bits3
  simp only [b0, b1, b2, b3, b4, b5, b6, b7, b8, b9, b10]
  generalize f.path.length = pl
  generalize f.data.length = dl
  generalize f.mems.length = ml
  generalize f.np = nq
  generalize f.watch = wa
  rw [Bool.eq_iff_iff]
  cases wa <;> simp [okQ] <;> omega
theorem docFit4 (f : Qf) (e : f.kind = 4) : docFit f = decide (f.data.length = 0 ∧ f.flags = 0 ∧ f.watch = false ∧ f.sort = 0 ∧ f.last = 0 ∧ f.timeout = 0 ∧ f.frm = 0 ∧ f.mems.length = 0 ∧ f.np = 0 ∧ f.path.length ≤ 220 ∧ f.data.length ≤ 1000 ∧ 0 ≤ f.flags ∧ f.flags ≤ 3 ∧ -1 ≤ f.version ∧ 0 ≤ f.last ∧ 0 ≤ f.frm ∧ f.mems.length ≤ 7) := by
  have hpe : decide (f.path = []) = decide (f.path.length = 0) := by cases f.path <;> simp
  unfold docFit docZero docZero2 docLim docEnd
  rw [hpe, e]
  obtain ⟨b0, b1, b2, b3, b4, b5, b6, b7, b8, b9, b10, b11, b12⟩ := bits4
  simp only [b0, b1, b2, b3, b4, b5, b6, b7, b8, b9, b10]
  generalize f.path.length = pl
  generalize f.data.length = dl
  generalize f.mems.length = ml
  generalize f.np = nq
  generalize f.watch = wa
  rw [Bool.eq_iff_iff]
  cases wa <;> simp [okQ] <;> omega
theorem docFit5 (f : Qf) (e : f.kind = 5) : docFit f = decide (f.flags = 0 ∧ f.watch = false ∧ f.sort = 0 ∧ f.last = 0 ∧ f.timeout = 0 ∧ f.frm = 0 ∧ f.mems.length = 0 ∧ f.np = 0 ∧ f.path.length ≤ 220 ∧ f.data.length ≤ 1000 ∧ 0 ≤ f.flags ∧ f.flags ≤ 3 ∧ -1 ≤ f.version ∧ 0 ≤ f.last ∧ 0 ≤ f.frm ∧ f.mems.length ≤ 7) := by
  have hpe : decide (f.path = []) = decide (f.path.length = 0) := by cases f.path <;> simp
  unfold docFit docZero docZero2 docLim docEnd
  rw [hpe, e]
  obtain ⟨b0, b1, b2, b3, b4, b5, b6, b7, b8, b9, b10, b11, b12⟩ := bits5
  simp only [b0, b1, b2, b3, b4, b5, b6, b7, b8, b9, b10]
  generalize f.path.length = pl
  generalize f.data.length = dl
  generalize f.mems.length = ml
  generalize f.np = nq
  generalize f.watch = wa
  rw [Bool.eq_iff_iff]
  cases wa <;> simp [okQ] <;> omega
theorem docFit6 (f : Qf) (e : f.kind = 6) : docFit f = decide (f.data.length = 0 ∧ f.flags = 0 ∧ f.watch = false ∧ f.sort = 0 ∧ f.last = 0 ∧ f.timeout = 0 ∧ f.frm = 0 ∧ f.mems.length = 0 ∧ f.np = 0 ∧ f.path.length ≤ 220 ∧ f.data.length ≤ 1000 ∧ 0 ≤ f.flags ∧ f.flags ≤ 3 ∧ -1 ≤ f.version ∧ 0 ≤ f.last ∧ 0 ≤ f.frm ∧ f.mems.length ≤ 7) := by
  have hpe : decide (f.path = []) = decide (f.path.length = 0) := by cases f.path <;> simp
  unfold docFit docZero docZero2 docLim docEnd
  rw [hpe, e]
  obtain ⟨b0, b1, b2, b3, b4, b5, b6, b7, b8, b9, b10, b11, b12⟩ := bits6
  simp only [b0, b1, b2, b3, b4, b5, b6, b7, b8, b9, b10]
  generalize f.path.length = pl
  generalize f.data.length = dl
  generalize f.mems.length = ml
  generalize f.np = nq
  generalize f.watch = wa
  rw [Bool.eq_iff_iff]
  cases wa <;> simp [okQ] <;> omega
theorem docFit7 (f : Qf) (e : f.kind = 7) : docFit f = decide (f.data.length = 0 ∧ f.flags = 0 ∧ f.version = 0 ∧ f.sort = 0 ∧ f.last = 0 ∧ f.timeout = 0 ∧ f.frm = 0 ∧ f.mems.length = 0 ∧ f.np = 0 ∧ f.path.length ≤ 220 ∧ f.data.length ≤ 1000 ∧ 0 ≤ f.flags ∧ f.flags ≤ 3 ∧ -1 ≤ f.version ∧ 0 ≤ f.last ∧ 0 ≤ f.frm ∧ f.mems.length ≤ 7) := by
  have hpe : decide (f.path = []) = decide (f.path.length = 0) := by cases f.path <;> simp
  unfold docFit docZero docZero2 docLim docEnd
  rw [hpe, e]
  obtain ⟨b0, b1, b2, b3, b4, b5, b6, b7, b8, b9, b10, b11, b12⟩ := bits7
  simp only [b0, b1, b2, b3, b4, b5, b6, b7, b8, b9, b10]
  generalize f.path.length = pl
  generalize f.data.length = dl
  generalize f.mems.length = ml
  generalize f.np = nq
  generalize f.watch = wa
  rw [Bool.eq_iff_iff]
  cases wa <;> simp [okQ] <;> omega
theorem docFit8 (f : Qf) (e : f.kind = 8) : docFit f = decide (f.data.length = 0 ∧ f.flags = 0 ∧ f.version = 0 ∧ f.sort = 0 ∧ f.last = 0 ∧ f.timeout = 0 ∧ f.frm = 0 ∧ f.mems.length = 0 ∧ f.np = 0 ∧ f.path.length ≤ 220 ∧ f.data.length ≤ 1000 ∧ 0 ≤ f.flags ∧ f.flags ≤ 3 ∧ -1 ≤ f.version ∧ 0 ≤ f.last ∧ 0 ≤ f.frm ∧ f.mems.length ≤ 7) := by
  have hpe : decide (f.path = []) = decide (f.path.length = 0) := by cases f.path <;> simp
  unfold docFit docZero docZero2 docLim docEnd
  rw [hpe, e]
  obtain ⟨b0, b1, b2, b3, b4, b5, b6, b7, b8, b9, b10, b11, b12⟩ := bits8
  simp only [b0, b1, b2, b3, b4, b5, b6, b7, b8, b9, b10]
  generalize f.path.length = pl
  generalize f.data.length = dl
  generalize f.mems.length = ml
  generalize f.np = nq
  generalize f.watch = wa
  rw [Bool.eq_iff_iff]
  cases wa <;> simp [okQ] <;> omega
theorem docFit9 (f : Qf) (e : f.kind = 9) : docFit f = decide (f.data.length = 0 ∧ f.flags = 0 ∧ f.version = 0 ∧ f.sort = 0 ∧ f.last = 0 ∧ f.timeout = 0 ∧ f.frm = 0 ∧ f.mems.length = 0 ∧ f.np = 0 ∧ f.path.length ≤ 220 ∧ f.data.length ≤ 1000 ∧ 0 ≤ f.flags ∧ f.flags ≤ 3 ∧ -1 ≤ f.version ∧ 0 ≤ f.last ∧ 0 ≤ f.frm ∧ f.mems.length ≤ 7) := by
  have hpe : decide (f.path = []) = decide (f.path.length = 0) := by cases f.path <;> simp
  unfold docFit docZero docZero2 docLim docEnd
  rw [hpe, e]
  obtain ⟨b0, b1, b2, b3, b4, b5, b6, b7, b8, b9, b10, b11, b12⟩ := bits9
  simp only [b0, b1, b2, b3, b4, b5, b6, b7, b8, b9, b10]
  generalize f.path.length = pl
  generalize f.data.length = dl
  generalize f.mems.length = ml
  generalize f.np = nq
  generalize f.watch = wa
  rw [Bool.eq_iff_iff]
  cases wa <;> simp [okQ] <;> omega
theorem docFit10 (f : Qf) (e : f.kind = 10) : docFit f = decide (f.path.length = 0 ∧ f.data.length = 0 ∧ f.flags = 0 ∧ f.version = 0 ∧ f.watch = false ∧ f.sort = 0 ∧ f.last = 0 ∧ f.timeout = 0 ∧ f.frm = 0 ∧ f.mems.length = 0 ∧ f.np = 0 ∧ f.path.length ≤ 220 ∧ f.data.length ≤ 1000 ∧ 0 ≤ f.flags ∧ f.flags ≤ 3 ∧ -1 ≤ f.version ∧ 0 ≤ f.last ∧ 0 ≤ f.frm ∧ f.mems.length ≤ 7) := by
  have hpe : decide (f.path = []) = decide (f.path.length = 0) := by cases f.path <;> simp
  unfold docFit docZero docZero2 docLim docEnd
  rw [hpe, e]
  obtain ⟨b0, b1, b2, b3, b4, b5, b6, b7, b8, b9, b10, b11, b12⟩ := bits10
  simp only [b0, b1, b2, b3, b4, b5, b6, b7, b8, b9, b10]
  generalize f.path.length = pl
  generalize f.data.length = dl
  generalize f.mems.length = ml
  generalize f.np = nq
  generalize f.watch = wa
  rw [Bool.eq_iff_iff]
  cases wa <;> simp [okQ] <;> omega
theorem docFit11 (f : Qf) (e : f.kind = 11) : docFit f = decide (f.path.length = 0 ∧ f.data.length = 0 ∧ f.flags = 0 ∧ f.version = 0 ∧ f.watch = false ∧ f.sort = 0 ∧ f.last = 0 ∧ f.timeout = 0 ∧ f.frm = 0 ∧ f.mems.length = 0 ∧ f.path.length ≤ 220 ∧ f.data.length ≤ 1000 ∧ 0 ≤ f.flags ∧ f.flags ≤ 3 ∧ -1 ≤ f.version ∧ 0 ≤ f.last ∧ 0 ≤ f.frm ∧ f.mems.length ≤ 7) := by
  have hpe : decide (f.path = []) = decide (f.path.length = 0) := by cases f.path <;> simp
  unfold docFit docZero docZero2 docLim docEnd
  rw [hpe, e]
  obtain ⟨b0, b1, b2, b3, b4, b5, b6, b7, b8, b9, b10, b11, b12⟩ := bits11
  simp only [b0, b1, b2, b3, b4, b5, b6, b7, b8, b9, b10]
  generalize f.path.length = pl
  generalize f.data.length = dl
  generalize f.mems.length = ml
  generalize f.np = nq
  generalize f.watch = wa
  rw [Bool.eq_iff_iff]
  cases wa <;> simp [okQ] <;> omega
theorem docFit12 (f : Qf) (e : f.kind = 12) : docFit f = decide (f.path.length = 0 ∧ f.data.length = 0 ∧ f.flags = 0 ∧ f.version = 0 ∧ f.watch = false ∧ f.sort = 0 ∧ f.last = 0 ∧ f.timeout = 0 ∧ f.np = 0 ∧ f.path.length ≤ 220 ∧ f.data.length ≤ 1000 ∧ 0 ≤ f.flags ∧ f.flags ≤ 3 ∧ -1 ≤ f.version ∧ 0 ≤ f.last ∧ 0 ≤ f.frm ∧ f.mems.length ≤ 7) := by
  have hpe : decide (f.path = []) = decide (f.path.length = 0) := by cases f.path <;> simp
  unfold docFit docZero docZero2 docLim docEnd
  rw [hpe, e]
  obtain ⟨b0, b1, b2, b3, b4, b5, b6, b7, b8, b9, b10, b11, b12⟩ := bits12
  simp only [b0, b1, b2, b3, b4, b5, b6, b7, b8, b9, b10]
  generalize f.path.length = pl
  generalize f.data.length = dl
  generalize f.mems.length = ml
  generalize f.np = nq
  generalize f.watch = wa
  rw [Bool.eq_iff_iff]
  cases wa <;> simp [okQ] <;> omega
theorem docFit13 (f : Qf) (e : f.kind = 13) : docFit f = decide (f.path.length = 0 ∧ f.data.length = 0 ∧ f.flags = 0 ∧ f.version = 0 ∧ f.watch = false ∧ f.sort = 0 ∧ f.last = 0 ∧ f.timeout = 0 ∧ f.frm = 0 ∧ f.mems.length = 0 ∧ f.np = 0 ∧ f.path.length ≤ 220 ∧ f.data.length ≤ 1000 ∧ 0 ≤ f.flags ∧ f.flags ≤ 3 ∧ -1 ≤ f.version ∧ 0 ≤ f.last ∧ 0 ≤ f.frm ∧ f.mems.length ≤ 7) := by
  have hpe : decide (f.path = []) = decide (f.path.length = 0) := by cases f.path <;> simp
  unfold docFit docZero docZero2 docLim docEnd
  rw [hpe, e]
  obtain ⟨b0, b1, b2, b3, b4, b5, b6, b7, b8, b9, b10, b11, b12⟩ := bits13
  simp only [b0, b1, b2, b3, b4, b5, b6, b7, b8, b9, b10]
  generalize f.path.length = pl
  generalize f.data.length = dl
  generalize f.mems.length = ml
  generalize f.np = nq
  generalize f.watch = wa
  rw [Bool.eq_iff_iff]
  cases wa <;> simp [okQ] <;> omega
theorem docFit14 (f : Qf) (e : f.kind = 14) : docFit f = decide (f.data.length = 0 ∧ f.flags = 0 ∧ f.version = 0 ∧ f.watch = false ∧ f.timeout = 0 ∧ f.frm = 0 ∧ f.mems.length = 0 ∧ f.np = 0 ∧ f.path.length ≤ 220 ∧ f.data.length ≤ 1000 ∧ 0 ≤ f.flags ∧ f.flags ≤ 3 ∧ -1 ≤ f.version ∧ 0 ≤ f.last ∧ 0 ≤ f.frm ∧ f.mems.length ≤ 7 ∧ 1 ≤ f.sort ∧ f.sort ≤ 3) := by
  have hpe : decide (f.path = []) = decide (f.path.length = 0) := by cases f.path <;> simp
  unfold docFit docZero docZero2 docLim docEnd
  rw [hpe, e]
  obtain ⟨b0, b1, b2, b3, b4, b5, b6, b7, b8, b9, b10, b11, b12⟩ := bits14
  simp only [b0, b1, b2, b3, b4, b5, b6, b7, b8, b9, b10]
  generalize f.path.length = pl
  generalize f.data.length = dl
  generalize f.mems.length = ml
  generalize f.np = nq
  generalize f.watch = wa
  rw [Bool.eq_iff_iff]
  cases wa <;> simp [okQ] <;> omega
set_option maxRecDepth 100000 in
theorem rfitsBad (kd xi se tu fl ve so la ti fr : Int) (wa : Bool) (p : List UInt8) (A1 A2 A3 : Option Addr) (n1 n2 n3 c1 c2 c3 : Nat) (w : World) (hO : ∀ w', Calls Tryd.prog 73 #[.int .u8 kd] w' fun e w'' => e = .returned (.tuple #[.agg #[.bool false, .bool false, .bool false, .bool false, .bool false, .bool false, .bool false, .bool false, .bool false, .bool false], .bool false]) ∧ Below w'.heap.size w' w'') :
    Calls Tryd.prog 40 #[.agg #[.int .u8 kd, .int .i64 xi, .int .i64 se, .int .i64 tu, .string (mkS p), .slice A1 n1 c1, .int .i64 fl, .int .i64 ve, .bool wa, .int .u8 so, .int .i64 la, .int .i64 ti, .int .i64 fr, .slice A2 n2 c2, .slice A3 n3 c3]] w fun e w' => e = .returned (.bool false) ∧ Below w.heap.size w w' := by
  obtain ⟨w1, hw1⟩ : ∃ X, X = w.alloc (.cells #[.int .u8 kd, .int .i64 xi, .int .i64 se, .int .i64 tu, .string (mkS p), .slice A1 n1 c1, .int .i64 fl, .int .i64 ve, .bool wa, .int .u8 so, .int .i64 la, .int .i64 ti, .int .i64 fr, .slice A2 n2 c2, .slice A3 n3 c3] 29) := ⟨_, rfl⟩
  have hB1 : Below w.heap.size w w1 := by rw [hw1]; exact (Below.refl _ _).alloc (Nat.le_refl _) _
  have HB1 : Hid (Below w.heap.size w w1) := hB1
  have ho := hO w1
  rw [hw1] at ho
  clear hO hB1
  go_enter Tryd.func40, Tryd.ntmps40
  go_wp2_with fail
  refine ho.mono ?_
  rintro e w2 ⟨rfl, hB2⟩
  rw [← hw1] at hB2
  have HB2 : Hid (Below w.heap.size w w2) := HB1.out.trans (hB2.mono HB1.out.size)
  clear ho hB2 hw1 HB1
  go_wp2
  go_ret
  exact ⟨rfl, HB2.out.alloc HB2.out.size _⟩
theorem rfits_any (f : Qf) (A1 A2 A3 : Option Addr) (c1 c2 c3 : Nat) (w : World) (hk : 0 ≤ f.kind) :
    Calls Tryd.prog 40 #[.agg #[.int .u8 f.kind, .int .i64 f.xid, .int .i64 f.session, .int .i64 f.turn, .string (mkS f.path), .slice A1 f.data.length c1, .int .i64 f.flags, .int .i64 f.version, .bool f.watch, .int .u8 f.sort, .int .i64 f.last, .int .i64 f.timeout, .int .i64 f.frm, .slice A2 f.mems.length c2, .slice A3 f.np c3]] w fun e w' => e = .returned (.bool (docFit f)) ∧ Below w.heap.size w w' := by
  by_cases hb : 15 ≤ f.kind
  · have e : docFit f = false := by
      have : okQ f.kind = false := by unfold okQ; simp; omega
      unfold docFit; rw [this]; rfl
    rw [e]
    refine rfitsBad _ _ _ _ _ _ _ _ _ _ _ _ _ _ _ _ _ _ _ _ _ w (fun w' => ?_)
    have h := rOf_big f.kind hb w'
    have hv : (Value.tuple #[hasV f.kind, .bool (okQ f.kind)]) = .tuple #[.agg #[.bool false, .bool false, .bool false, .bool false, .bool false, .bool false, .bool false, .bool false, .bool false, .bool false], .bool false] := by
      unfold hasV
      rw [has_big hb 0, has_big hb 1, has_big hb 2, has_big hb 3, has_big hb 4, has_big hb 5, has_big hb 6, has_big hb 7, has_big hb 9, has_big hb 10, show okQ f.kind = false by unfold okQ; simp; omega]
    rw [hv] at h
    exact h
  · have hc : f.kind = 0 ∨ f.kind = 1 ∨ f.kind = 2 ∨ f.kind = 3 ∨ f.kind = 4 ∨ f.kind = 5 ∨ f.kind = 6 ∨ f.kind = 7 ∨ f.kind = 8 ∨ f.kind = 9 ∨ f.kind = 10 ∨ f.kind = 11 ∨ f.kind = 12 ∨ f.kind = 13 ∨ f.kind = 14 := by omega
    rcases hc with e | e | e | e | e | e | e | e | e | e | e | e | e | e | e
    · have e' : docFit f = false := by
        unfold docFit; rw [e]; rfl
      rw [e', e]
      exact rfitsBad _ _ _ _ _ _ _ _ _ _ _ _ _ _ _ _ _ _ _ _ _ w (fun w' => rOf0c w')
    · rw [docFit1 f e, e]
      exact rfitsOpen _ _ _ _ _ _ _ _ _ _ _ _ _ _ _ _ _ _ _ _ _ w (fun w' => rOf1c w')
    · rw [docFit2 f e, e]
      exact rfitsNone _ _ _ _ _ _ _ _ _ _ _ _ _ _ _ _ _ _ _ _ _ w (fun w' => rOf2c w')
    · rw [docFit3 f e, e]
      exact rfitsCreate _ _ _ _ _ _ _ _ _ _ _ _ _ _ _ _ _ _ _ _ _ w (fun w' => rOf3c w')
    · rw [docFit4 f e, e]
      exact rfitsDel _ _ _ _ _ _ _ _ _ _ _ _ _ _ _ _ _ _ _ _ _ w (fun w' => rOf4c w')
    · rw [docFit5 f e, e]
      exact rfitsSet _ _ _ _ _ _ _ _ _ _ _ _ _ _ _ _ _ _ _ _ _ w (fun w' => rOf5c w')
    · rw [docFit6 f e, e]
      exact rfitsDel _ _ _ _ _ _ _ _ _ _ _ _ _ _ _ _ _ _ _ _ _ w (fun w' => rOf6c w')
    · rw [docFit7 f e, e]
      exact rfitsGet _ _ _ _ _ _ _ _ _ _ _ _ _ _ _ _ _ _ _ _ _ w (fun w' => rOf7c w')
    · rw [docFit8 f e, e]
      exact rfitsGet _ _ _ _ _ _ _ _ _ _ _ _ _ _ _ _ _ _ _ _ _ w (fun w' => rOf8c w')
    · rw [docFit9 f e, e]
      exact rfitsGet _ _ _ _ _ _ _ _ _ _ _ _ _ _ _ _ _ _ _ _ _ w (fun w' => rOf9c w')
    · rw [docFit10 f e, e]
      exact rfitsNone _ _ _ _ _ _ _ _ _ _ _ _ _ _ _ _ _ _ _ _ _ w (fun w' => rOf10c w')
    · rw [docFit11 f e, e]
      exact rfitsMulti _ _ _ _ _ _ _ _ _ _ _ _ _ _ _ _ _ _ _ _ _ w (fun w' => rOf11c w')
    · rw [docFit12 f e, e]
      exact rfitsConfig _ _ _ _ _ _ _ _ _ _ _ _ _ _ _ _ _ _ _ _ _ w (fun w' => rOf12c w')
    · rw [docFit13 f e, e]
      exact rfitsNone _ _ _ _ _ _ _ _ _ _ _ _ _ _ _ _ _ _ _ _ _ w (fun w' => rOf13c w')
    · rw [docFit14 f e, e]
      exact rfitsWatch _ _ _ _ _ _ _ _ _ _ _ _ _ _ _ _ _ _ _ _ _ w (fun w' => rOf14c w')
end Go.Proofs.YtmojplgoohnmdaaDoor.AK
