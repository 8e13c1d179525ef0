/- The document's body of a call without parts. -/
import Derived.Test.YtmojplgoohnmdaaDoorRf6e
import Derived.Test.YtmojplgoohnmdaaDoorRf6f
namespace Go.Proofs.YtmojplgoohnmdaaDoor.AK
set_option linter.unusedSimpArgs false
set_option linter.unusedVariables false
open Go.RowKit
set_option linter.unusedVariables false
set_option linter.unusedSimpArgs false

theorem rbody_leaf {w : World} {base g : Nat} {q : Option Nat} {l : List UInt8} (h : WrF w base g q l) (hg : base ≤ g) (hl : l.length ≤ 800000) (f : Qf) (hf : QFit f) (hw : Within f) (A1 A2 A3 : Option Addr) (c1 c2 c3 : Nat) (hr : QRest w base f A1 c1 A2 c2) (hok : okQ f.kind = true) (hn : f.kind ≠ 11) :
    Calls Tryd.prog 34 #[.pointer (some ⟨g, 0, none⟩), .agg #[.int .u8 f.kind, .int .i64 f.xid, .int .i64 f.session, .int .i64 f.turn, .string (mkS f.path), .slice A1 f.data.length c1, .int .i64 f.flags, .int .i64 f.version, .bool f.watch, .int .u8 f.sort, .int .i64 f.last, .int .i64 f.timeout, .int .i64 f.frm, .slice A2 f.mems.length c2, .slice A3 f.np c3]] w fun e w' => e = .returned (.tuple #[]) ∧ ∃ q', WrF w' base g q' (l ++ bodyQ f) ∧ Put g q w w' q' := by
  have hc : f.kind = 1 ∨ f.kind = 2 ∨ f.kind = 3 ∨ f.kind = 4 ∨ f.kind = 5 ∨ f.kind = 6 ∨ f.kind = 7 ∨ f.kind = 8 ∨ f.kind = 9 ∨ f.kind = 10 ∨ f.kind = 12 ∨ f.kind = 13 ∨ f.kind = 14 := by
    unfold okQ at hok
    simp only [Bool.and_eq_true, decide_eq_true_eq] at hok
    omega
  rcases hc with e | e | e | e | e | e | e | e | e | e | e | e | e
  · obtain ⟨b0, b1, b2, b3, b4, b5, b6, b7, b8, b9, b10, b11, b12⟩ := bits1
    have hb : bodyQ f = numB f.last ++ (numB f.timeout) := by unfold bodyQ; rw [e]; simp [oB, b0, b1, b2, b3, b4, b5, b6, b7, b8, b9]
    rw [hb]
    exact rbodyOpen h hg hl f hf hw A1 A2 A3 c1 c2 c3 hr (fun w' => by rw [e]; exact rOf1c w')
  · obtain ⟨b0, b1, b2, b3, b4, b5, b6, b7, b8, b9, b10, b11, b12⟩ := bits2
    have hb : bodyQ f = [] := by unfold bodyQ; rw [e]; simp [oB, b0, b1, b2, b3, b4, b5, b6, b7, b8, b9]
    rw [hb]
    exact rbodyNone h hg hl f hf hw A1 A2 A3 c1 c2 c3 hr (fun w' => by rw [e]; exact rOf2c w')
  · obtain ⟨b0, b1, b2, b3, b4, b5, b6, b7, b8, b9, b10, b11, b12⟩ := bits3
    have hb : bodyQ f = textB f.path ++ (textB f.data ++ (numB f.flags)) := by unfold bodyQ; rw [e]; simp [oB, b0, b1, b2, b3, b4, b5, b6, b7, b8, b9]
    rw [hb]
    exact rbodyCreate h hg hl f hf hw A1 A2 A3 c1 c2 c3 hr (fun w' => by rw [e]; exact rOf3c w')
  · obtain ⟨b0, b1, b2, b3, b4, b5, b6, b7, b8, b9, b10, b11, b12⟩ := bits4
    have hb : bodyQ f = textB f.path ++ (numB f.version) := by unfold bodyQ; rw [e]; simp [oB, b0, b1, b2, b3, b4, b5, b6, b7, b8, b9]
    rw [hb]
    exact rbodyDel h hg hl f hf hw A1 A2 A3 c1 c2 c3 hr (fun w' => by rw [e]; exact rOf4c w')
  · obtain ⟨b0, b1, b2, b3, b4, b5, b6, b7, b8, b9, b10, b11, b12⟩ := bits5
    have hb : bodyQ f = textB f.path ++ (textB f.data ++ (numB f.version)) := by unfold bodyQ; rw [e]; simp [oB, b0, b1, b2, b3, b4, b5, b6, b7, b8, b9]
    rw [hb]
    exact rbodySet h hg hl f hf hw A1 A2 A3 c1 c2 c3 hr (fun w' => by rw [e]; exact rOf5c w')
  · obtain ⟨b0, b1, b2, b3, b4, b5, b6, b7, b8, b9, b10, b11, b12⟩ := bits6
    have hb : bodyQ f = textB f.path ++ (numB f.version) := by unfold bodyQ; rw [e]; simp [oB, b0, b1, b2, b3, b4, b5, b6, b7, b8, b9]
    rw [hb]
    exact rbodyDel h hg hl f hf hw A1 A2 A3 c1 c2 c3 hr (fun w' => by rw [e]; exact rOf6c w')
  · obtain ⟨b0, b1, b2, b3, b4, b5, b6, b7, b8, b9, b10, b11, b12⟩ := bits7
    have hb : bodyQ f = textB f.path ++ ([wb f.watch]) := by unfold bodyQ; rw [e]; simp [oB, b0, b1, b2, b3, b4, b5, b6, b7, b8, b9]
    rw [hb]
    exact rbodyGet h hg hl f hf hw A1 A2 A3 c1 c2 c3 hr (fun w' => by rw [e]; exact rOf7c w')
  · obtain ⟨b0, b1, b2, b3, b4, b5, b6, b7, b8, b9, b10, b11, b12⟩ := bits8
    have hb : bodyQ f = textB f.path ++ ([wb f.watch]) := by unfold bodyQ; rw [e]; simp [oB, b0, b1, b2, b3, b4, b5, b6, b7, b8, b9]
    rw [hb]
    exact rbodyGet h hg hl f hf hw A1 A2 A3 c1 c2 c3 hr (fun w' => by rw [e]; exact rOf8c w')
  · obtain ⟨b0, b1, b2, b3, b4, b5, b6, b7, b8, b9, b10, b11, b12⟩ := bits9
    have hb : bodyQ f = textB f.path ++ ([wb f.watch]) := by unfold bodyQ; rw [e]; simp [oB, b0, b1, b2, b3, b4, b5, b6, b7, b8, b9]
    rw [hb]
    exact rbodyGet h hg hl f hf hw A1 A2 A3 c1 c2 c3 hr (fun w' => by rw [e]; exact rOf9c w')
  · obtain ⟨b0, b1, b2, b3, b4, b5, b6, b7, b8, b9, b10, b11, b12⟩ := bits10
    have hb : bodyQ f = [] := by unfold bodyQ; rw [e]; simp [oB, b0, b1, b2, b3, b4, b5, b6, b7, b8, b9]
    rw [hb]
    exact rbodyNone h hg hl f hf hw A1 A2 A3 c1 c2 c3 hr (fun w' => by rw [e]; exact rOf10c w')
  · obtain ⟨b0, b1, b2, b3, b4, b5, b6, b7, b8, b9, b10, b11, b12⟩ := bits12
    have hb : bodyQ f = numB f.frm ++ memsQ f.mems := by unfold bodyQ; rw [e]; simp [oB, b0, b1, b2, b3, b4, b5, b6, b7, b8, b9]
    rw [hb]
    exact rbodyConfig h hg hl f hf hw A1 A2 A3 c1 c2 c3 hr (fun w' => by rw [e]; exact rOf12c w')
  · obtain ⟨b0, b1, b2, b3, b4, b5, b6, b7, b8, b9, b10, b11, b12⟩ := bits13
    have hb : bodyQ f = [] := by unfold bodyQ; rw [e]; simp [oB, b0, b1, b2, b3, b4, b5, b6, b7, b8, b9]
    rw [hb]
    exact rbodyNone h hg hl f hf hw A1 A2 A3 c1 c2 c3 hr (fun w' => by rw [e]; exact rOf13c w')
  · obtain ⟨b0, b1, b2, b3, b4, b5, b6, b7, b8, b9, b10, b11, b12⟩ := bits14
    have hb : bodyQ f = textB f.path ++ ([u8 f.sort] ++ (numB f.last)) := by unfold bodyQ; rw [e]; simp [oB, b0, b1, b2, b3, b4, b5, b6, b7, b8, b9]
    rw [hb]
    exact rbodyWatch h hg hl f hf hw A1 A2 A3 c1 c2 c3 hr (fun w' => by rw [e]; exact rOf14c w')
end Go.Proofs.YtmojplgoohnmdaaDoor.AK
