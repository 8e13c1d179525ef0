/- What the listed variable of the program and the library's give a walk, and a world in which they hold what the program's text lays. -/
import Derived.Test.YtkbmbnfpadllmaaDoorCards
import Derived.Test.YtkbmbnfpadllmaaDoorTie
import Derived.ProofKit
import Derived.OpenShut
import Derived.ShutString
import Derived.Deep.DeepHandedRow
import Derived.Lib.LaidTab
import Derived.Test.YtkbmbnfpadllmaaDoorWalksC
import Derived.Test.YtkbmbnfpadllmaaDoorPathW
namespace Go.Proofs.YtkbmbnfpadllmaaDoor
open Go.ChangeShapes Go.WideShapes Go.ChangeAt Go.RowKit

theorem own : ownKnob Tryd.prog.godebug = none := by kernel_rfl
theorem gTab : Tryd.prog.globalNamed "beadle/deed.kinds" = some 0 := by kernel_rfl
theorem gTabType : (Tryd.prog.globals[0]?).map (·.type) = some 108 := by kernel_rfl
theorem cellsT : Tryd.prog.cellsOf 108 = 10 := by kernel_rfl
theorem cellsE : Tryd.prog.cellsOf 95 = 1 := by kernel_rfl
def kindsL : List Int := [0, 2071, 3089, 2059, 32, 260, 512, 128, 256, 64]
theorem tabData_eq : (Rows.laid_beadle_deed_kinds : DataW Unit) = Lib.tabData .u16 kindsL := by kernel_rfl
theorem tab_of_laid {rest : List (String × DataW Unit)} {W : World} (h : laidMet Tryd.prog (("beadle/deed.kinds", Rows.laid_beadle_deed_kinds) :: rest) W) : ∀ j, j < 10 → W.cell? ⟨0, j, none⟩ = some (.int .u16 (PA.kTab j)) := by
  rw [tabData_eq] at h
  have ht := Lib.tabIs_of_head gTab gTabType Tryd.underlying108 Tryd.underlying95 cellsE cellsT h
  unfold Lib.TabIs World.var? at ht
  rw [gTab] at ht
  intro j hj
  simp only [Option.bind_some] at ht
  split at ht
  · next cs t fr hh =>
    rw [cell_at hh]
    simp only [Option.some.injEq] at ht
    rw [ht]
    rcases j with _ | _ | _ | _ | _ | _ | _ | _ | _ | _ | j <;> first | rfl | omega
  · cases ht
theorem maxlen_of_shaped {W : World} (h : W.ShapedOpen Tryd.prog) : ∃ m, W.cell? ⟨1, 0, none⟩ = some (.int .i64 m) := Go.Proofs.cell_of_shapedOpen_int (zero := #[.int .i64 0]) (t := 3) h (of_decide_eq_true (by kernel_rfl)) (by kernel_rfl) rfl (by kernel_rfl) (by kernel_rfl) Tryd.underlying3
theorem laid_of {rest : List (String × DataW Unit)} {W : World} (h : laidMet Tryd.prog (("beadle/deed.kinds", Rows.laid_beadle_deed_kinds) :: rest) W) (hS : W.ShapedOpen Tryd.prog) : PA.Laid W := ⟨maxlen_of_shaped hS, tab_of_laid h⟩

/- A call that laid nothing but new blocks, some of them frozen, keeps its row: the arguments were no places of memory. -/
theorem post_plain {H : Type} {enc : TypeId × Value → H} {P : Program} {f : Func} {s : ChangeSpec} {fresh handsOn again : Bool} {W W' : World} {args : Array Value} {v : Value} {ds gs : List (DataW H)}
    (hW : DataW.Whole enc P f.params.toList s.vars false W args.toList ds gs [])
    (hres : ∀ (b : Nat) (sp : Nat → Bool) (hd : Bool), DataW.TrodAll enc P W' b sp hd f.resultTypes.toList (v.resultList f.resultTypes.size) (s.fn H (ds ++ gs)).results [])
    (hargs : ∀ sp : Nat → Bool, DataW.TrodAll enc P W' 0 sp true f.params.toList args.toList (s.fn H (ds ++ gs)).args [])
    (hvars : ∀ sp : Nat → Bool, DataW.TrodVars enc P W' sp s.vars (s.fn H (ds ++ gs)).vars [])
    (hB : Below W.heap.size W W')
    (hok : ∀ (j : Nat) (t : TypeId) (r : Value), f.resultTypes[j]? = some t → (v.resultList f.resultTypes.size)[j]? = some r → Value.okWide P W' .any 0 t r) :
    s.post enc P f false fresh handsOn again W args v W' := by
  refine ⟨ds, gs, [], [], [], [], hW, hres _ _ _, hargs _, hvars _, hB.frame _, fun _ => ?_⟩
  refine ⟨hok, _, _, ([] ++ []) ++ [], ⟨[] ++ [], [], trodAll_append (hargs _) (hres _ _ _), hvars _, rfl, ?_, ?_⟩, ?_⟩
  · intro b off hp; cases hp
  · intro ha; cases ha
  · intro p hp; cases hp
def u16s (l : List Int) : Array Value := (l.map fun z => Value.int .u16 z).toArray
def put (h : Array Obj) (g : Nat) (cs : Array Value) : Array Obj := h.modify g fun
  | .cells _ t frozen => .cells cs t frozen
  | o => o
noncomputable def laidWorld (os : Os) : World :=
  { World.holding Tryd.prog os ⟨#[], #[], []⟩ with heap := put (World.holding Tryd.prog os ⟨#[], #[], []⟩).heap 0 (u16s kindsL) }
end Go.Proofs.YtkbmbnfpadllmaaDoor
