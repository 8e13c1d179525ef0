/- The walk of putFields, of calls without parts. -/
import Derived.Test.YtmojplgoohnmdaaDoorAkTOpen
import Derived.Test.YtmojplgoohnmdaaDoorAkTNone
import Derived.Test.YtmojplgoohnmdaaDoorAkTCreate
import Derived.Test.YtmojplgoohnmdaaDoorAkTDel
import Derived.Test.YtmojplgoohnmdaaDoorAkTSet
import Derived.Test.YtmojplgoohnmdaaDoorAkTGet
import Derived.Test.YtmojplgoohnmdaaDoorAkTConfig
import Derived.Test.YtmojplgoohnmdaaDoorAkTWatch
namespace Go.Proofs.YtmojplgoohnmdaaDoor.AK
set_option linter.unusedSimpArgs false
set_option linter.unusedVariables false
open Go.RowKit
set_option linter.unusedVariables false
set_option linter.unusedSimpArgs false

theorem bit0 (i : Fin 11) : (bits BinOp.and IntKind.u16 0 (2 ^ i.val) != 0) = false := by revert i; decide +kernel
theorem kQ_big {k : Int} (h : 15 ≤ k) : kQ k.toNat = 0 := by
  unfold kQ
  rw [List.getD_eq_getElem?_getD, List.getElem?_eq_none (by simp [kindsQ]; omega)]
  rfl
theorem putFields_leaf {w : World} {base g : Nat} {q : Option Nat} {l : List UInt8} (h : WrAt w base g q l) (hg : base ≤ g) (hl : l.length ≤ 800000) (f : Qf) (hf : QFit f) (hw : Within f) (hn : f.kind ≠ 11) (A1 A2 A3 : Option Addr) (c1 c2 c3 : Nat) (hL : QL w) (hr : QRest w base f A1 c1 A2 c2) :
    Calls Tryd.prog 29 #[.pointer (some ⟨g, 0, none⟩), .agg #[.int .u8 f.kind, .int .i64 f.xid, .int .i64 f.session, .int .i64 f.turn, .string (mkS f.path), .slice A1 f.data.length c1, .int .i64 f.flags, .int .i64 f.version, .bool f.watch, .int .u8 f.sort, .int .i64 f.last, .int .i64 f.timeout, .int .i64 f.frm, .slice A2 f.mems.length c2, .slice A3 f.np c3]] w fun e w' => e = .returned (.tuple #[]) ∧ ∃ q', WrAt w' base g q' (l ++ bodyQ f) ∧ Put g q w w' q' := by
  have hk := hf.kind
  by_cases e0 : f.kind = 0
  · have h0 : has 0 0 = false := by decide +kernel
    have h1 : has 0 1 = false := by decide +kernel
    have h2 : has 0 2 = false := by decide +kernel
    have h3 : has 0 3 = false := by decide +kernel
    have h4 : has 0 4 = false := by decide +kernel
    have h5 : has 0 5 = false := by decide +kernel
    have h6 : has 0 6 = false := by decide +kernel
    have h7 : has 0 7 = false := by decide +kernel
    have h8 : has 0 8 = false := by decide +kernel
    have h9 : has 0 9 = false := by decide +kernel
    have hb : bodyQ f = [] := by unfold bodyQ; rw [e0]; simp [oB, h0, h1, h2, h3, h4, h5, h6, h7, h8, h9]
    rw [hb]
    exact putFNone h hg hl f hf hw A1 A2 A3 c1 c2 c3 hL hr (by rw [e0]; decide +kernel) (by rw [e0]; decide +kernel) (by rw [e0]; decide +kernel) (by rw [e0]; decide +kernel) (by rw [e0]; decide +kernel) (by rw [e0]; decide +kernel) (by rw [e0]; decide +kernel) (by rw [e0]; decide +kernel) (by rw [e0]; decide +kernel) (by rw [e0]; decide +kernel) (by rw [e0]; decide +kernel)
  by_cases e1 : f.kind = 1
  · have h0 : has 1 0 = false := by decide +kernel
    have h1 : has 1 1 = false := by decide +kernel
    have h2 : has 1 2 = false := by decide +kernel
    have h3 : has 1 3 = false := by decide +kernel
    have h4 : has 1 4 = false := by decide +kernel
    have h5 : has 1 5 = false := by decide +kernel
    have h6 : has 1 6 = true := by decide +kernel
    have h7 : has 1 7 = true := by decide +kernel
    have h8 : has 1 8 = false := by decide +kernel
    have h9 : has 1 9 = false := by decide +kernel
    have hb : bodyQ f = numB f.last ++ (numB f.timeout) := by unfold bodyQ; rw [e1]; simp [oB, h0, h1, h2, h3, h4, h5, h6, h7, h8, h9]
    rw [hb]
    exact putFOpen h hg hl f hf hw A1 A2 A3 c1 c2 c3 hL hr (by rw [e1]; decide +kernel) (by rw [e1]; decide +kernel) (by rw [e1]; decide +kernel) (by rw [e1]; decide +kernel) (by rw [e1]; decide +kernel) (by rw [e1]; decide +kernel) (by rw [e1]; decide +kernel) (by rw [e1]; decide +kernel) (by rw [e1]; decide +kernel) (by rw [e1]; decide +kernel) (by rw [e1]; decide +kernel)
  by_cases e2 : f.kind = 2
  · have h0 : has 2 0 = false := by decide +kernel
    have h1 : has 2 1 = false := by decide +kernel
    have h2 : has 2 2 = false := by decide +kernel
    have h3 : has 2 3 = false := by decide +kernel
    have h4 : has 2 4 = false := by decide +kernel
    have h5 : has 2 5 = false := by decide +kernel
    have h6 : has 2 6 = false := by decide +kernel
    have h7 : has 2 7 = false := by decide +kernel
    have h8 : has 2 8 = false := by decide +kernel
    have h9 : has 2 9 = false := by decide +kernel
    have hb : bodyQ f = [] := by unfold bodyQ; rw [e2]; simp [oB, h0, h1, h2, h3, h4, h5, h6, h7, h8, h9]
    rw [hb]
    exact putFNone h hg hl f hf hw A1 A2 A3 c1 c2 c3 hL hr (by rw [e2]; decide +kernel) (by rw [e2]; decide +kernel) (by rw [e2]; decide +kernel) (by rw [e2]; decide +kernel) (by rw [e2]; decide +kernel) (by rw [e2]; decide +kernel) (by rw [e2]; decide +kernel) (by rw [e2]; decide +kernel) (by rw [e2]; decide +kernel) (by rw [e2]; decide +kernel) (by rw [e2]; decide +kernel)
  by_cases e3 : f.kind = 3
  · have h0 : has 3 0 = true := by decide +kernel
    have h1 : has 3 1 = true := by decide +kernel
    have h2 : has 3 2 = true := by decide +kernel
    have h3 : has 3 3 = false := by decide +kernel
    have h4 : has 3 4 = false := by decide +kernel
    have h5 : has 3 5 = false := by decide +kernel
    have h6 : has 3 6 = false := by decide +kernel
    have h7 : has 3 7 = false := by decide +kernel
    have h8 : has 3 8 = false := by decide +kernel
    have h9 : has 3 9 = false := by decide +kernel
    have hb : bodyQ f = textB f.path ++ (textB f.data ++ (numB f.flags)) := by unfold bodyQ; rw [e3]; simp [oB, h0, h1, h2, h3, h4, h5, h6, h7, h8, h9]
    rw [hb]
    exact putFCreate h hg hl f hf hw A1 A2 A3 c1 c2 c3 hL hr (by rw [e3]; decide +kernel) (by rw [e3]; decide +kernel) (by rw [e3]; decide +kernel) (by rw [e3]; decide +kernel) (by rw [e3]; decide +kernel) (by rw [e3]; decide +kernel) (by rw [e3]; decide +kernel) (by rw [e3]; decide +kernel) (by rw [e3]; decide +kernel) (by rw [e3]; decide +kernel) (by rw [e3]; decide +kernel)
  by_cases e4 : f.kind = 4
  · have h0 : has 4 0 = true := by decide +kernel
    have h1 : has 4 1 = false := by decide +kernel
    have h2 : has 4 2 = false := by decide +kernel
    have h3 : has 4 3 = true := by decide +kernel
    have h4 : has 4 4 = false := by decide +kernel
    have h5 : has 4 5 = false := by decide +kernel
    have h6 : has 4 6 = false := by decide +kernel
    have h7 : has 4 7 = false := by decide +kernel
    have h8 : has 4 8 = false := by decide +kernel
    have h9 : has 4 9 = false := by decide +kernel
    have hb : bodyQ f = textB f.path ++ (numB f.version) := by unfold bodyQ; rw [e4]; simp [oB, h0, h1, h2, h3, h4, h5, h6, h7, h8, h9]
    rw [hb]
    exact putFDel h hg hl f hf hw A1 A2 A3 c1 c2 c3 hL hr (by rw [e4]; decide +kernel) (by rw [e4]; decide +kernel) (by rw [e4]; decide +kernel) (by rw [e4]; decide +kernel) (by rw [e4]; decide +kernel) (by rw [e4]; decide +kernel) (by rw [e4]; decide +kernel) (by rw [e4]; decide +kernel) (by rw [e4]; decide +kernel) (by rw [e4]; decide +kernel) (by rw [e4]; decide +kernel)
  by_cases e5 : f.kind = 5
  · have h0 : has 5 0 = true := by decide +kernel
    have h1 : has 5 1 = true := by decide +kernel
    have h2 : has 5 2 = false := by decide +kernel
    have h3 : has 5 3 = true := by decide +kernel
    have h4 : has 5 4 = false := by decide +kernel
    have h5 : has 5 5 = false := by decide +kernel
    have h6 : has 5 6 = false := by decide +kernel
    have h7 : has 5 7 = false := by decide +kernel
    have h8 : has 5 8 = false := by decide +kernel
    have h9 : has 5 9 = false := by decide +kernel
    have hb : bodyQ f = textB f.path ++ (textB f.data ++ (numB f.version)) := by unfold bodyQ; rw [e5]; simp [oB, h0, h1, h2, h3, h4, h5, h6, h7, h8, h9]
    rw [hb]
    exact putFSet h hg hl f hf hw A1 A2 A3 c1 c2 c3 hL hr (by rw [e5]; decide +kernel) (by rw [e5]; decide +kernel) (by rw [e5]; decide +kernel) (by rw [e5]; decide +kernel) (by rw [e5]; decide +kernel) (by rw [e5]; decide +kernel) (by rw [e5]; decide +kernel) (by rw [e5]; decide +kernel) (by rw [e5]; decide +kernel) (by rw [e5]; decide +kernel) (by rw [e5]; decide +kernel)
  by_cases e6 : f.kind = 6
  · have h0 : has 6 0 = true := by decide +kernel
    have h1 : has 6 1 = false := by decide +kernel
    have h2 : has 6 2 = false := by decide +kernel
    have h3 : has 6 3 = true := by decide +kernel
    have h4 : has 6 4 = false := by decide +kernel
    have h5 : has 6 5 = false := by decide +kernel
    have h6 : has 6 6 = false := by decide +kernel
    have h7 : has 6 7 = false := by decide +kernel
    have h8 : has 6 8 = false := by decide +kernel
    have h9 : has 6 9 = false := by decide +kernel
    have hb : bodyQ f = textB f.path ++ (numB f.version) := by unfold bodyQ; rw [e6]; simp [oB, h0, h1, h2, h3, h4, h5, h6, h7, h8, h9]
    rw [hb]
    exact putFDel h hg hl f hf hw A1 A2 A3 c1 c2 c3 hL hr (by rw [e6]; decide +kernel) (by rw [e6]; decide +kernel) (by rw [e6]; decide +kernel) (by rw [e6]; decide +kernel) (by rw [e6]; decide +kernel) (by rw [e6]; decide +kernel) (by rw [e6]; decide +kernel) (by rw [e6]; decide +kernel) (by rw [e6]; decide +kernel) (by rw [e6]; decide +kernel) (by rw [e6]; decide +kernel)
  by_cases e7 : f.kind = 7
  · have h0 : has 7 0 = true := by decide +kernel
    have h1 : has 7 1 = false := by decide +kernel
    have h2 : has 7 2 = false := by decide +kernel
    have h3 : has 7 3 = false := by decide +kernel
    have h4 : has 7 4 = true := by decide +kernel
    have h5 : has 7 5 = false := by decide +kernel
    have h6 : has 7 6 = false := by decide +kernel
    have h7 : has 7 7 = false := by decide +kernel
    have h8 : has 7 8 = false := by decide +kernel
    have h9 : has 7 9 = false := by decide +kernel
    have hb : bodyQ f = textB f.path ++ ([wb f.watch]) := by unfold bodyQ; rw [e7]; simp [oB, h0, h1, h2, h3, h4, h5, h6, h7, h8, h9]
    rw [hb]
    exact putFGet h hg hl f hf hw A1 A2 A3 c1 c2 c3 hL hr (by rw [e7]; decide +kernel) (by rw [e7]; decide +kernel) (by rw [e7]; decide +kernel) (by rw [e7]; decide +kernel) (by rw [e7]; decide +kernel) (by rw [e7]; decide +kernel) (by rw [e7]; decide +kernel) (by rw [e7]; decide +kernel) (by rw [e7]; decide +kernel) (by rw [e7]; decide +kernel) (by rw [e7]; decide +kernel)
  by_cases e8 : f.kind = 8
  · have h0 : has 8 0 = true := by decide +kernel
    have h1 : has 8 1 = false := by decide +kernel
    have h2 : has 8 2 = false := by decide +kernel
    have h3 : has 8 3 = false := by decide +kernel
    have h4 : has 8 4 = true := by decide +kernel
    have h5 : has 8 5 = false := by decide +kernel
    have h6 : has 8 6 = false := by decide +kernel
    have h7 : has 8 7 = false := by decide +kernel
    have h8 : has 8 8 = false := by decide +kernel
    have h9 : has 8 9 = false := by decide +kernel
    have hb : bodyQ f = textB f.path ++ ([wb f.watch]) := by unfold bodyQ; rw [e8]; simp [oB, h0, h1, h2, h3, h4, h5, h6, h7, h8, h9]
    rw [hb]
    exact putFGet h hg hl f hf hw A1 A2 A3 c1 c2 c3 hL hr (by rw [e8]; decide +kernel) (by rw [e8]; decide +kernel) (by rw [e8]; decide +kernel) (by rw [e8]; decide +kernel) (by rw [e8]; decide +kernel) (by rw [e8]; decide +kernel) (by rw [e8]; decide +kernel) (by rw [e8]; decide +kernel) (by rw [e8]; decide +kernel) (by rw [e8]; decide +kernel) (by rw [e8]; decide +kernel)
  by_cases e9 : f.kind = 9
  · have h0 : has 9 0 = true := by decide +kernel
    have h1 : has 9 1 = false := by decide +kernel
    have h2 : has 9 2 = false := by decide +kernel
    have h3 : has 9 3 = false := by decide +kernel
    have h4 : has 9 4 = true := by decide +kernel
    have h5 : has 9 5 = false := by decide +kernel
    have h6 : has 9 6 = false := by decide +kernel
    have h7 : has 9 7 = false := by decide +kernel
    have h8 : has 9 8 = false := by decide +kernel
    have h9 : has 9 9 = false := by decide +kernel
    have hb : bodyQ f = textB f.path ++ ([wb f.watch]) := by unfold bodyQ; rw [e9]; simp [oB, h0, h1, h2, h3, h4, h5, h6, h7, h8, h9]
    rw [hb]
    exact putFGet h hg hl f hf hw A1 A2 A3 c1 c2 c3 hL hr (by rw [e9]; decide +kernel) (by rw [e9]; decide +kernel) (by rw [e9]; decide +kernel) (by rw [e9]; decide +kernel) (by rw [e9]; decide +kernel) (by rw [e9]; decide +kernel) (by rw [e9]; decide +kernel) (by rw [e9]; decide +kernel) (by rw [e9]; decide +kernel) (by rw [e9]; decide +kernel) (by rw [e9]; decide +kernel)
  by_cases e10 : f.kind = 10
  · have h0 : has 10 0 = false := by decide +kernel
    have h1 : has 10 1 = false := by decide +kernel
    have h2 : has 10 2 = false := by decide +kernel
    have h3 : has 10 3 = false := by decide +kernel
    have h4 : has 10 4 = false := by decide +kernel
    have h5 : has 10 5 = false := by decide +kernel
    have h6 : has 10 6 = false := by decide +kernel
    have h7 : has 10 7 = false := by decide +kernel
    have h8 : has 10 8 = false := by decide +kernel
    have h9 : has 10 9 = false := by decide +kernel
    have hb : bodyQ f = [] := by unfold bodyQ; rw [e10]; simp [oB, h0, h1, h2, h3, h4, h5, h6, h7, h8, h9]
    rw [hb]
    exact putFNone h hg hl f hf hw A1 A2 A3 c1 c2 c3 hL hr (by rw [e10]; decide +kernel) (by rw [e10]; decide +kernel) (by rw [e10]; decide +kernel) (by rw [e10]; decide +kernel) (by rw [e10]; decide +kernel) (by rw [e10]; decide +kernel) (by rw [e10]; decide +kernel) (by rw [e10]; decide +kernel) (by rw [e10]; decide +kernel) (by rw [e10]; decide +kernel) (by rw [e10]; decide +kernel)
  by_cases e12 : f.kind = 12
  · have h0 : has 12 0 = false := by decide +kernel
    have h1 : has 12 1 = false := by decide +kernel
    have h2 : has 12 2 = false := by decide +kernel
    have h3 : has 12 3 = false := by decide +kernel
    have h4 : has 12 4 = false := by decide +kernel
    have h5 : has 12 5 = false := by decide +kernel
    have h6 : has 12 6 = false := by decide +kernel
    have h7 : has 12 7 = false := by decide +kernel
    have h8 : has 12 8 = true := by decide +kernel
    have h9 : has 12 9 = true := by decide +kernel
    have hb : bodyQ f = numB f.frm ++ (memsQ f.mems) := by unfold bodyQ; rw [e12]; simp [oB, h0, h1, h2, h3, h4, h5, h6, h7, h8, h9]
    rw [hb]
    exact putFConfig h hg hl f hf hw A1 A2 A3 c1 c2 c3 hL hr (by rw [e12]; decide +kernel) (by rw [e12]; decide +kernel) (by rw [e12]; decide +kernel) (by rw [e12]; decide +kernel) (by rw [e12]; decide +kernel) (by rw [e12]; decide +kernel) (by rw [e12]; decide +kernel) (by rw [e12]; decide +kernel) (by rw [e12]; decide +kernel) (by rw [e12]; decide +kernel) (by rw [e12]; decide +kernel)
  by_cases e13 : f.kind = 13
  · have h0 : has 13 0 = false := by decide +kernel
    have h1 : has 13 1 = false := by decide +kernel
    have h2 : has 13 2 = false := by decide +kernel
    have h3 : has 13 3 = false := by decide +kernel
    have h4 : has 13 4 = false := by decide +kernel
    have h5 : has 13 5 = false := by decide +kernel
    have h6 : has 13 6 = false := by decide +kernel
    have h7 : has 13 7 = false := by decide +kernel
    have h8 : has 13 8 = false := by decide +kernel
    have h9 : has 13 9 = false := by decide +kernel
    have hb : bodyQ f = [] := by unfold bodyQ; rw [e13]; simp [oB, h0, h1, h2, h3, h4, h5, h6, h7, h8, h9]
    rw [hb]
    exact putFNone h hg hl f hf hw A1 A2 A3 c1 c2 c3 hL hr (by rw [e13]; decide +kernel) (by rw [e13]; decide +kernel) (by rw [e13]; decide +kernel) (by rw [e13]; decide +kernel) (by rw [e13]; decide +kernel) (by rw [e13]; decide +kernel) (by rw [e13]; decide +kernel) (by rw [e13]; decide +kernel) (by rw [e13]; decide +kernel) (by rw [e13]; decide +kernel) (by rw [e13]; decide +kernel)
  by_cases e14 : f.kind = 14
  · have h0 : has 14 0 = true := by decide +kernel
    have h1 : has 14 1 = false := by decide +kernel
    have h2 : has 14 2 = false := by decide +kernel
    have h3 : has 14 3 = false := by decide +kernel
    have h4 : has 14 4 = false := by decide +kernel
    have h5 : has 14 5 = true := by decide +kernel
    have h6 : has 14 6 = true := by decide +kernel
    have h7 : has 14 7 = false := by decide +kernel
    have h8 : has 14 8 = false := by decide +kernel
    have h9 : has 14 9 = false := by decide +kernel
    have hb : bodyQ f = textB f.path ++ ([u8 f.sort] ++ (numB f.last)) := by unfold bodyQ; rw [e14]; simp [oB, h0, h1, h2, h3, h4, h5, h6, h7, h8, h9]
    rw [hb]
    exact putFWatch h hg hl f hf hw A1 A2 A3 c1 c2 c3 hL hr (by rw [e14]; decide +kernel) (by rw [e14]; decide +kernel) (by rw [e14]; decide +kernel) (by rw [e14]; decide +kernel) (by rw [e14]; decide +kernel) (by rw [e14]; decide +kernel) (by rw [e14]; decide +kernel) (by rw [e14]; decide +kernel) (by rw [e14]; decide +kernel) (by rw [e14]; decide +kernel) (by rw [e14]; decide +kernel)
  have hbig : 15 ≤ f.kind := by omega
  have hz := kQ_big hbig
  have hb : bodyQ f = [] := by
    unfold bodyQ
    simp [oB, has_big hbig]
  rw [hb]
  exact putFNone h hg hl f hf hw A1 A2 A3 c1 c2 c3 hL hr (by rw [hz]; exact bit0 0) (by rw [hz]; exact bit0 1) (by rw [hz]; exact bit0 2) (by rw [hz]; exact bit0 3) (by rw [hz]; exact bit0 4) (by rw [hz]; exact bit0 5) (by rw [hz]; exact bit0 6) (by rw [hz]; exact bit0 7) (by rw [hz]; exact bit0 8) (by rw [hz]; exact bit0 9) (by rw [hz]; exact bit0 10)
end Go.Proofs.YtmojplgoohnmdaaDoor.AK
