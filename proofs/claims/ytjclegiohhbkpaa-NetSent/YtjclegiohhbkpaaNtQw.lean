/- The walk of peeked. -/
import Derived.Test.YtjclegiohhbkpaaNtQ
namespace Go.Proofs.Ytjclegiohhbkpaa
open Go.RowKit Go.MapKept

theorem wpList_app2 {w : World} {ops : Array Oper} {rest : List Oper} {o : Oper} {a : Act} {Q : Exit → Act → World → Prop} (hg : o.guard = none) (s x : Operand)
    (ho : o.op = .call { callee := .builtin .append, args := #[s, x], argTypes := #[42, 42] })
    (vs vx v' : Value) (w' : World) (hs : a.eval s = vs) (hx : a.eval x = vx) (hrun : (Builtin.append_ #[42, 42] o.type #[vs, vx]).run Try.prog w = .ok v' w') (h : wpList Try.prog ops Q rest (a.put o.dst v') w') :
    wpList Try.prog ops Q (o :: rest) a w := by
  refine wpList_step fun K hK => ?_
  exact step_app2 hg s x ho vs vx v' w' hs hx hrun (hK _ _ h)
set_option maxRecDepth 100000 in
set_option maxHeartbeats 1000000 in
theorem peeked_any {w : World} {n : Nat} {l : List Pk} {T : Nat → Prop} (h : Nx w n l T) (k : Int × Int) (I : Int) (hI : i64 I) :
    Calls Try.prog 21 #[.pointer (some ⟨n, 0, none⟩), .int .i64 k.1, .int .i64 k.2, .int .i64 I] w fun e w' => PeekEnd w n l T k I e w' := by
  have HN : Hid (Nx w n l T) := h
  have HB : Hid ((bagOf l k).length ≤ 32 ∧ ∀ x ∈ bagOf l k, x.length ≤ 1048576) := h.bag k
  clear h
  unfold i64 at hI
  by_cases hneg : I < 0
  · have HP : Hid (PeekEnd w n l T k I (.returned (.tuple #[.slice none 0 0, .bool false])) w) := .inl ⟨rfl, by simp [peek]; omega, T, fun _ => id, HN.out, Chg.refl _ _⟩
    go_enter Try.func21, Try.ntmps21
    go_wp2_with fail
    go_ret2
    exact HP.out
  · obtain ⟨i, hi⟩ : ∃ i : Nat, I = i := ⟨I.toNat, by omega⟩
    have HI : Hid (I = i) := hi
    have HP : Hid (Pz w w n l T k i 0 (.slice none 0 0)) := Pz.start HN.out k i
    clear hi
    go_enter Try.func21, Try.ntmps21
    go_wp2_with fail
    go_loopw [10, 11] (fun v c wr => ∃ (j : Nat), j ≤ 32 ∧ c = .int .i64 j ∧ (∃ A C, v = .slice A j C) ∧ Hid (Pz w wr n l T k i j v)) (fun _ c _ => 32 - (intOf c).toNat)
    case atStart => exact ⟨0, by omega, rfl, ⟨none, 0, rfl⟩, HP⟩
    case round =>
      obtain ⟨j, hj, rfl, ⟨A0, C0, rfl⟩, HR⟩ := hrel
      by_cases hlt : j < 32
      · have ht := pz_take HR.out (by omega) HI.out
        go_wp2_with fail
        refine ht.mono ?_
        rintro e w2 (⟨rfl, HR2, hle⟩ | ⟨A, C, c, rfl, hlt2, A', C', w3, hrun, HR3⟩)
        · have HQ : Hid (Qz w _ n l T k i j 0 (.slice A0 j C0)) := Pz.done HR2.out hle
          go_wp2_with fail
          go_loopw [14] (fun c wr => ∃ (q : Nat), q ≤ j ∧ c = .int .i64 q ∧ Hid (Qz w wr n l T k i j q (.slice A0 j C0))) (fun c _ => j - (intOf c).toNat)
          case atStart => exact ⟨0, by omega, rfl, HQ⟩
          case round =>
            obtain ⟨q, hq, rfl, HRx⟩ := hrel
            by_cases hltq : q < j
            · obtain ⟨g, A1, C1, c1, hA, hc, hs⟩ := qz_send HRx.out hltq HB.out
              subst hA
              go_wp2_with fail
              refine hs.mono ?_
              rintro e w5 ⟨rfl, HR5⟩
              go_wp2_with fail
              go_roundw
              case rel => exact ⟨q + 1, by omega, by go_num, HR5⟩
              case measure => simp [intOf]; omega
            · have hqe : q = j := by omega
              subst hqe
              by_cases h0 : q = 0
              · subst h0
                have HE : Hid (PeekEnd w n l T k I (.returned (.tuple #[.slice none 0 0, .bool false])) wr) := Qz.none HRx.out HI.out
                go_wp2_with fail
                go_ret2
                exact HE.out
              · obtain ⟨g, A1, C1, c1, hA, hc, hE⟩ := Qz.some HRx.out (by omega) HI.out
                have HE : Hid _ := hE
                clear hE
                subst hA
                go_wp2_with fail
                go_ret2
                exact HE.out
        · clear ht
          go_wp2_with (at_builtin; refine wpList_app2 rfl (.tmp 31) (.tmp 33) rfl _ _ _ _ rfl rfl hrun ?_)
          go_roundw
          case rel => exact ⟨j + 1, by omega, by go_num, ⟨A', C', rfl⟩, HR3⟩
          case measure => simp [intOf]; omega
      · have hj32 : 32 ≤ j := by omega
        have HQ : Hid (Qz w _ n l T k i j 0 (.slice A0 j C0)) := Pz.done HR.out (by have := HB.out.1; omega)
        go_wp2_with fail
        go_loopw [14] (fun c wr => ∃ (q : Nat), q ≤ j ∧ c = .int .i64 q ∧ Hid (Qz w wr n l T k i j q (.slice A0 j C0))) (fun c _ => j - (intOf c).toNat)
        case atStart => exact ⟨0, by omega, rfl, HQ⟩
        case round =>
          obtain ⟨q, hq, rfl, HRx⟩ := hrel
          by_cases hltq : q < j
          · obtain ⟨g, A1, C1, c1, hA, hc, hs⟩ := qz_send HRx.out hltq HB.out
            subst hA
            go_wp2_with fail
            refine hs.mono ?_
            rintro e w5 ⟨rfl, HR5⟩
            go_wp2_with fail
            go_roundw
            case rel => exact ⟨q + 1, by omega, by go_num, HR5⟩
            case measure => simp [intOf]; omega
          · have hqe : q = j := by omega
            subst hqe
            by_cases h0 : q = 0
            · subst h0
              have HE : Hid (PeekEnd w n l T k I (.returned (.tuple #[.slice none 0 0, .bool false])) wr) := Qz.none HRx.out HI.out
              go_wp2_with fail
              go_ret2
              exact HE.out
            · obtain ⟨g, A1, C1, c1, hA, hc, hE⟩ := Qz.some HRx.out (by omega) HI.out
              have HE : Hid _ := hE
              clear hE
              subst hA
              go_wp2_with fail
              go_ret2
              exact HE.out
end Go.Proofs.Ytjclegiohhbkpaa
