/- TreeAgrees. -/
import Derived.Test.YtcdnfgibcochhaaGreatDoorTrWb
import Derived.Test.YtcdnfgibcochhaaGreatDoorTrOw
import Derived.Test.YtcdnfgibcochhaaGreatDoorTrSx
import Derived.Deep.CutRange
import Derived.Deep.CutBlock
import Derived.Lib.QuietBelow
import Derived.BigQuiet
import Derived.Deep.RegionWith
namespace Go.Proofs.YtcdnfgibcochhaaGreatDoor
set_option linter.unusedSimpArgs false
set_option linter.unusedVariables false
set_option linter.unusedSimpArgs false
set_option linter.unusedVariables false
open Go.RowKit Go.MapKept Go.Sort

theorem ap_len5 (f : Fl) (ps : List Fl) (N : List Fi) : (apN f ps N).length ≤ N.length + 501 := by
  unfold apN
  cases hr : rightD f ps with
  | false => simp
  | true =>
    simp only [if_true]
    unfold deN
    have hfit : fitsB f ps = true := rightD_fits hr
    split
    · next hk =>
      have hps : ps.length ≤ 500 := by
        unfold fitsB at hfit
        have hn : ¬ isNode f.kind = true := by
          simp only [isNode, Bool.or_eq_true, decide_eq_true_eq]; omega
        rw [if_neg hn] at hfit
        simp only [Bool.and_eq_true] at hfit
        have hkb := hfit.2
        unfold kindB at hkb
        rcases hk with k5 | k8
        · rw [if_neg (by omega), if_pos k5] at hkb
          simp only [Bool.and_eq_true, decide_eq_true_eq] at hkb
          exact hkb.1.2
        · rw [if_neg (by omega), if_neg (by omega), if_neg (by omega), if_neg (by omega), if_pos k8] at hkb
          simp only [Bool.and_eq_true, decide_eq_true_eq] at hkb
          omega
      have := doPs_len f ps N
      omega
    · have := do_len f N
      omega
theorem run_len5 : ∀ (P : List (Fl × List Fl)) (N : List Fi), (runN P N).length ≤ N.length + P.length * 501
  | [], N => by simp [runN]
  | p :: P, N => by
    have h1 := run_len5 P (apN p.1 p.2 N)
    have h2 := ap_len5 p.1 p.2 N
    show (runN P (apN p.1 p.2 N)).length ≤ _
    rw [List.length_cons, Nat.add_mul]
    omega
theorem Tr.look {w : World} {t m n : Nat} {N : List Fi} {S : List Si.Fi} (h : Tr w t m n N S) (p : List UInt8) {q : Fi} (hq : lookF p N = some q) : ∃ L K, Tk w t m n L K ∧ L.map Prod.fst = N ∧ K.map Prod.fst = S ∧ ∃ A C, look p L = some (q, .slice A q.b.length C) := Aw.look h p hq
theorem Tr.get {w : World} {t m n : Nat} {N : List Fi} {S : List Si.Fi} (h : Tr w t m n N S) (hL : PA.Laid w) (hG : GoodT N) (hlen : N.length ≤ 1000000) (p : List UInt8) {q : Fi} (hq : lookF p N = some q) :
    Calls Tryz.prog 14 #[.pointer (some ⟨t, 0, none⟩), .string (mkS p)] w fun e w' => ∃ A' C', e = .returned (.tuple #[.agg (alA ⟨toldF (N.map (·.nm)) q, A', C'⟩), .bool true]) ∧ w'.ownsRow w.heap.size 5 1 (.slice A' q.b.length C') q.b.length (bv q.b) ∧ Below w.heap.size w w' := by
  have hp : p.length ≤ 200 := by
    have h1 := (hG.all q (look_nm hq).2).rt
    rw [(look_nm hq).1] at h1
    exact PA.right_len h1
  have hqn := (look_nm hq).1
  obtain ⟨L, K, hT, hN, hS, A, C, hl⟩ := h.look p hq
  refine (get_yes hT hL (by rw [← hN] at hlen; simpa using hlen) p (by omega) hl).mono ?_
  rintro e w' ⟨A', C', rfl, ho, hb⟩
  refine ⟨A', C', ?_, ho, hb⟩
  rw [names_F, hN]
  subst hqn
  rfl
theorem Tr.list {w : World} {t m n : Nat} {N : List Fi} {S : List Si.Fi} (h : Tr w t m n N S) (hL : PA.Laid w) (hlen : N.length ≤ 1000000) (p : List UInt8) {q : Fi} (hq : lookF p N = some q) :
    Calls Tryz.prog 22 #[.pointer (some ⟨t, 0, none⟩), .string (mkS p)] w fun e w' => ∃ A' C', e = .returned (.tuple #[.slice A' (kids (N.map (·.nm)) p) C', .bool true]) ∧ Below w.heap.size w w' := by
  obtain ⟨L, K, hT, hN, hS, A, C, hl⟩ := h.look p hq
  refine (list_yes hT hL (by rw [← hN] at hlen; simpa using hlen) p hl).mono ?_
  rintro e w' ⟨ns, A', C', rfl, hns, ho, hb⟩
  refine ⟨A', C', ?_, hb⟩
  have : ns.length = kids (N.map (·.nm)) p := by
    rw [hns, sortN, List.length_mergeSort, List.length_map, names_F, hN]; rfl
  rw [this]
theorem Tr.owned {w : World} {t m n : Nat} {N : List Fi} {S : List Si.Fi} (h : Tr w t m n N S) (hlen : N.length ≤ 1000000) (s : Int) (hs : 1 ≤ s) :
    Calls Tryz.prog 16 #[.pointer (some ⟨t, 0, none⟩), .int .i64 s] w fun e w' => ∃ (ns : List (List UInt8)) (A : Option Addr) (C : Nat), e = .returned (.slice A ns.length C) ∧ (∀ q ∈ N, q.st.own = s → q.nm ∈ ns) ∧ w'.ownsRow w.heap.size 9 1 (.slice A ns.length C) ns.length (ns.map encStr) ∧ ns.length ≤ N.length ∧ Below w.heap.size w w' := by
  obtain ⟨L, K, hT, rfl, rfl⟩ := h
  rw [List.length_map] at hlen ⊢
  exact owned_any hT hlen s hs
/- What is told of all: each is found, with the paths rising. -/
theorem all_at {N : List Fi} (h : GoodT N) (i : Nat) (hi : i < (allF N).length) : ∃ q, lookF ((allF N)[i]'hi).nm N = some q ∧ (allF N)[i]'hi = toldF (N.map (·.nm)) q ∧ ((allF N)[i]'hi).nm = q.nm := by
  have hm : ((allF N)[i]'hi).nm ∈ (allF N).map (·.nm) := List.mem_map.2 ⟨_, List.getElem_mem hi, rfl⟩
  rw [allF_nm] at hm
  obtain ⟨q, hq⟩ := name_look.1 ((sortP_is _).mem_iff.1 hm)
  refine ⟨q, hq, ?_, (look_nm hq).1.symm⟩
  have h1 : ((allF N)[i]'hi).nm = (sortP (N.map (·.nm)))[i]'(by simpa [allF] using hi) := by
    have := congrArg (fun l => l[i]?) (allF_nm N)
    simp only [List.getElem?_map, List.getElem?_eq_getElem hi, List.getElem?_eq_getElem (show i < (sortP (N.map (·.nm))).length by simpa [allF] using hi), Option.map_some, Option.some.injEq] at this
    exact this
  have h2 : (allF N)[i]'hi = toldF (N.map (·.nm)) ((lookF ((allF N)[i]'hi).nm N).getD ⟨((allF N)[i]'hi).nm, [], zeroSt⟩) := by
    have hi' : i < (sortP (N.map (·.nm))).length := by simpa [allF] using hi
    have e : (allF N)[i]? = ((sortP (N.map (·.nm)))[i]?).map fun p => toldF (N.map (·.nm)) ((lookF p N).getD ⟨p, [], zeroSt⟩) := by unfold allF; rw [List.getElem?_map]
    rw [List.getElem?_eq_getElem hi, List.getElem?_eq_getElem hi', Option.map_some, Option.some.injEq] at e
    rw [h1]; exact e
  rw [h2, hq]
  rfl
theorem all_up {N : List Fi} (h : GoodT N) : (allF N).Pairwise fun x y => x.nm < y.nm := by
  have := sortP_up h.nm
  rw [← allF_nm, List.pairwise_map] at this
  exact this
theorem all_first {N : List Fi} (h : GoodT N) : ∃ r, (allF N).map (·.nm) = [47] :: r := by
  have hup := sortP_up h.nm
  have hrt : [47] ∈ sortP (N.map (·.nm)) := (sortP_is _).mem_iff.2 h.root
  rw [allF_nm]
  cases hp : sortP (N.map (·.nm)) with
  | nil => rw [hp] at hrt; simp at hrt
  | cons x ps =>
    rw [hp] at hrt hup
    by_cases hx : x = [47]
    · exact ⟨ps, by rw [hx]⟩
    · exfalso
      have hxr : PA.right x = true := by
        have : x ∈ sortP (N.map (·.nm)) := by rw [hp]; exact .head _
        obtain ⟨q, hq, he⟩ := List.mem_map.1 ((sortP_is _).mem_iff.1 this)
        rw [← he]
        exact (h.all q hq).rt
      have h1 := root_le hxr hx
      rcases List.mem_cons.1 hrt with e | e
      · exact hx e.symm
      · exact plt_irrefl _ (plt_trans h1 ((List.pairwise_cons.1 hup).1 _ e))
theorem all_are {N : List Fi} (h : GoodT N) : areF (allF N) = true := by
  obtain ⟨r, hr⟩ := all_first h
  have hne : allF N ≠ [] := by intro e; rw [e] at hr; simp at hr
  refine areF_of ?_ hne (all_up h) ?_
  · cases ha : allF N with
    | nil => exact absurd ha hne
    | cons x l => rw [ha] at hr; injection hr
  · intro q hq
    obtain ⟨i, hi, rfl⟩ := List.getElem_of_mem hq
    obtain ⟨q, h1, h2, _⟩ := all_at h i hi
    rw [h2]
    exact told_ok (h.all q (look_nm h1).2) _
theorem all_load {N : List Fi} (h : GoodT N) (k : List UInt8) : lookF k (loadF (allF N)) = lookF k N := by
  have hn : nam (allF N) := by unfold nam; rw [allF_nm]; exact (sortP_is _).nodup_iff.2 h.nm
  rw [load_look hn]
  cases hl : lookF k N with
  | none =>
    rw [look_no (fun e => by
      rw [allF_nm] at e
      obtain ⟨q, hq⟩ := name_look.1 ((sortP_is _).mem_iff.1 e)
      rw [hl] at hq; cases hq)]
    rfl
  | some q =>
    have hm : k ∈ (allF N).map (·.nm) := by rw [allF_nm]; exact (sortP_is _).mem_iff.2 (name_look.2 ⟨q, hl⟩)
    obtain ⟨x, hx, hxn⟩ := List.mem_map.1 hm
    obtain ⟨i, hi, rfl⟩ := List.getElem_of_mem hx
    obtain ⟨q', h1, h2, _⟩ := all_at h i hi
    rw [hxn, hl] at h1
    cases h1
    have h3 := look_in hn hx
    rw [hxn] at h3
    rw [h3, h2, Option.map_some, bare_told (h.all q (look_nm hl).2)]
theorem ks_take (names ps : List (List UInt8)) (k : Nat) (hk : k < ps.length) : ((ps.take (k + 1)).map (kids names)).sum = ((ps.take k).map (kids names)).sum + kids names (ps[k]'hk) := by
  rw [run_take ps k hk, List.map_append, List.sum_append]
  simp
theorem ks_le (names ps : List (List UInt8)) (k : Nat) : ((ps.take k).map (kids names)).sum ≤ (ps.map (kids names)).sum := by
  have : ps.map (kids names) = (ps.take k).map (kids names) ++ (ps.drop k).map (kids names) := by rw [← List.map_append, List.take_append_drop]
  rw [this, List.sum_append]
  omega
set_option maxRecDepth 100000 in
set_option maxHeartbeats 40000000 in
theorem agrees_any {w : World} (hL : PA.Laid w) {A : Option Addr} {E : List DD.El2} {C : Nat} (hR : DD.Rowed w A E C) (hE : ∀ e ∈ E, DD.DV w e ∧ DedFit e.p.1 e.p.2 ∧ e.p.1.np ≤ 9223372036854775807) (hl : E.length ≤ 9223372036854775807) :
    Calls Tryz.prog 7 #[.slice A E.length C] w fun e w' => e = .returned (.bool true) ∧ Below w.heap.size w w' := by
  have haw := awake_any w hL
  have HL : Hid (PA.Laid w) := hL
  have HR : Hid (DD.Rowed w A E C) := hR
  have HE : Hid (∀ e ∈ E, DD.DV w e ∧ DedFit e.p.1 e.p.2 ∧ e.p.1.np ≤ 9223372036854775807) := hE
  clear hL hR hE hl
  go_enter Tryz.func7, Tryz.ntmps7
  go_wp2_with fail
  refine haw.mono ?_
  rintro e w1 ⟨rfl, hb1⟩
  have HB1 : Hid (Below w.heap.size w w1) := hb1
  clear haw hb1
  go_upto_if 16 with fail
  go_cut [0] from 14 to 18 (fun v0 wx => w1 = wx ∧ ∃ N : Nat, N ≤ 60 ∧ N ≤ E.length ∧ v0 = .slice A N C)
  case first =>
    by_cases h : 60 < E.length
    · have hC : E.length ≤ C := HR.out.len (fun e => by rw [e] at h; simp at h)
      go_wp2_with fail
      go_meet
      exact ⟨rfl, 60, Nat.le_refl _, by omega, rfl⟩
    · go_wp2_with fail
      go_meet
      exact ⟨rfl, E.length, by omega, Nat.le_refl _, rfl⟩
  case rest =>
  obtain ⟨hw1, n0, hn0, hn0l, rfl⟩ := hcut
  subst hw1
  have hdn := done_any (HL.out.below HB1.out) ((HR.out.grow HB1.out).take n0 hn0l) (fun e he => ⟨(HE.out e (List.mem_of_mem_take he)).1.grow HB1.out, (HE.out e (List.mem_of_mem_take he)).2.1⟩) (by rw [List.length_take]; omega)
  have hln : (E.take n0).length = n0 := by rw [List.length_take]; omega
  obtain ⟨N, hN⟩ : ∃ N, N = runN ((E.take n0).map (·.p)) [rootF] := ⟨_, rfl⟩
  obtain ⟨S, hS⟩ : ∃ S, S = runS ((E.take n0).map (·.p)) [] := ⟨_, rfl⟩
  have HGN : Hid (GoodT N) := by rw [hN]; exact gr _
  have HGS : Hid (Si.GoodS S) := by rw [hS]; exact Si.gs _
  have HNL : Hid (N.length ≤ 40000) := by
    have h1 := run_len5 ((E.take n0).map (·.p)) [rootF]
    rw [List.length_map, hln] at h1
    rw [← hN] at h1
    simp only [List.length_cons, List.length_nil] at h1
    show _ ≤ _
    omega
  have HSL : Hid (S.length ≤ 1000) := by
    have h1 := run_slen ((E.take n0).map (·.p)) []
    rw [List.length_map, hln] at h1
    rw [← hS] at h1
    simp only [List.length_nil] at h1
    show _ ≤ _
    omega
  rw [hln, ← hN, ← hS] at hdn
  clear hN hS hn0l hln HE HR
  go_wp2_with fail
  refine hdn.mono ?_
  rintro e w2 ⟨tt, mt, nt, rfl, hT2, hW2, hb2⟩
  have HT2 : Hid (Tr w2 tt mt nt N S) := hT2
  have HW2 : Hid (∀ k, Wt tt mt nt k → w1.heap.size ≤ k) := hW2
  have HB2 : Hid (Below w.heap.size w w2) := HB1.out.trans (hb2.mono HB1.out.size)
  have HLD2 : Hid (PA.Laid w2) := HL.out.below HB2.out
  have c3 := hT2.all HLD2.out HGN.out (by have := HNL.out; omega)
  clear hdn hT2 hW2 hb2
  go_wp2_with fail
  refine c3.mono ?_
  rintro e w3 ⟨s, rfl, hs3, hb3⟩
  have HS3 : Hid (St1 w3 w2.heap.size s N) := hs3
  have HB3 : Hid (Below w2.heap.size w2 w3) := hb3
  have HT3 : Hid (Tr w3 tt mt nt N S) := HT2.out.below hb3
  have hsl : s.Q.length = N.length := by
    have h1 := congrArg List.length hs3.is
    rwa [List.length_map, all_len] at h1
  have hs4 : s.Q.length ≤ 40000 := by rw [hsl]; exact HNL.out
  have HSN : Hid (s.Q.length = N.length) := hsl
  obtain ⟨ks, hks⟩ : ∃ ks : Nat → Nat, ks = fun k => (((sortP (N.map (·.nm))).take k).map (kids (N.map (·.nm)))).sum := ⟨_, rfl⟩
  have HKS : Hid (ks 0 = 0 ∧ (∀ k, ks k + 1 ≤ s.Q.length) ∧ ∀ k (hk : k < s.Q.length), ks (k + 1) = ks k + kids (N.map (·.nm)) (s.Q[k]'hk).q.nm) := by
    have hpl : (sortP (N.map (·.nm))).length = s.Q.length := by rw [sortP_len, List.length_map, hsl]
    refine ⟨by rw [hks]; simp, fun k => ?_, fun k hk => ?_⟩
    · have h1 := kids_all HGN.out
      have h2 := ks_le (N.map (·.nm)) (sortP (N.map (·.nm))) k
      rw [hks]
      show (((sortP (N.map (·.nm))).take k).map (kids (N.map (·.nm)))).sum + 1 ≤ _
      omega
    · have h1 := ks_take (N.map (·.nm)) (sortP (N.map (·.nm))) k (by omega)
      have h2 : (s.Q[k]'hk).q.nm = (sortP (N.map (·.nm)))[k]'(by omega) := by
        have e : (s.Q.map (·.q.nm))[k]? = (sortP (N.map (·.nm)))[k]? := by rw [← allF_nm, ← hs3.is, List.map_map]; rfl
        rw [List.getElem?_map, List.getElem?_eq_getElem hk, List.getElem?_eq_getElem (by omega), Option.map_some, Option.some.injEq] at e
        exact e
      rw [hks, h2]
      exact h1
  clear c3 hs3 hb3 hsl hks
  go_upto_block 0 with fail
  go_cut [5, 6, 7, 8, 9, 10] from 23 to 117 (fun v5 v6 v7 v8 v9 v10 wx => ∃ c : Nat, v5 = .int .i64 (c : Int) ∧ c + 1 ≤ s.Q.length ∧ Below w3.heap.size w3 wx)
  case first =>
    go_wp2_with fail
    go_loopg [5, 6] s.Q.length (fun g v5 v6 wr => ∃ i : Nat, i ≤ s.Q.length ∧ g = s.Q.length - i ∧ v6 = .int .i64 (i : Int) ∧ v5 = .int .i64 (ks i : Int) ∧ Below w3.heap.size w3 wr)
    case atStart => exact ⟨0, Nat.zero_le _, rfl, rfl, by rw [HKS.out.1]; rfl, Below.refl _ _⟩
    case round =>
      obtain ⟨i, hi, hg, rfl, rfl, hB⟩ := hrel
      have HG : Hid (gk = s.Q.length - i) := hg
      have HB : Hid (Below w3.heap.size w3 wr) := hB
      clear hg hB
      by_cases hlt : i < s.Q.length
      case neg =>
        have hie : i = s.Q.length := by omega
        have HKI : Hid (ks i + 1 ≤ s.Q.length) := HKS.out.2.1 i
        generalize ks i = c at HKI ⊢
        have l1 : ¬ (i : Int) < (s.Q.length : Int) := by omega
        clear hie
        go_wp2_with fail
        go_meet
        exact ⟨c, rfl, HKI.out, HB.out⟩
      case pos =>
      have HKI : Hid (ks i + 1 ≤ s.Q.length ∧ ks (i + 1) + 1 ≤ s.Q.length) := ⟨HKS.out.2.1 i, HKS.out.2.1 (i + 1)⟩
      have hkn := HKS.out.2.2 i hlt
      obtain ⟨b, o, hAe, hb1, _, hc⟩ := HS3.out.row.at i hlt
      have hx := ncells hc
      have hiA : i < (allF N).length := by rw [all_len]; have := HSN.out; omega
      have hxa : (s.Q[i]'hlt).q = (allF N)[i]'hiA := by
        have e : (s.Q.map (·.q))[i]? = (allF N)[i]? := by rw [HS3.out.is]
        rw [List.getElem?_map, List.getElem?_eq_getElem hlt, List.getElem?_eq_getElem hiA, Option.map_some, Option.some.injEq] at e
        exact e
      obtain ⟨q, hq1, hq2, hq3⟩ := all_at HGN.out i hiA
      rw [← hxa] at hq1 hq2 hq3
      have hbs := HS3.out.bs _ (List.getElem_mem hlt)
      have hprev : ∀ hp : 0 < i, (s.Q[i - 1]'(by omega)).q.nm < (s.Q[i]'hlt).q.nm := by
        intro hp
        have h1 := all_up HGN.out
        have hj : i - 1 < (allF N).length := by omega
        have h2 := List.pairwise_iff_getElem.1 h1 (i - 1) i hj hiA (by omega)
        have e : (s.Q.map (·.q))[i - 1]? = (allF N)[i - 1]? := by rw [HS3.out.is]
        rw [List.getElem?_map, List.getElem?_eq_getElem (show i - 1 < s.Q.length by omega), List.getElem?_eq_getElem hj, Option.map_some, Option.some.injEq] at e
        rw [e, hxa]; exact h2
      have hgood := HGN.out.all q (look_nm hq1).2
      have hqin := (look_nm hq1).2
      obtain ⟨x, hxx⟩ : ∃ x, x = s.Q[i]'hlt := ⟨_, rfl⟩
      rw [← hxx] at hx hq1 hq2 hq3 hbs hkn
      have HPREV : Hid (∀ hp : 0 < i, (s.Q[i - 1]'(by omega)).q.nm < x.q.nm) := by rw [hxx]; exact hprev
      have HROW : Hid (RowN w3 s.A s.Q s.C) := HS3.out.row
      obtain ⟨kN, hkN⟩ : ∃ kN, kN = kids (N.map (·.nm)) x.q.nm := ⟨_, rfl⟩
      rw [← hkN] at hkn
      have HKN : Hid (ks (i + 1) = ks i + kN) := hkn
      have hkl : kN ≤ 40000 := by rw [hkN]; have h1 := kids_le (N.map (·.nm)) x.q.nm; rw [List.length_map] at h1; have := HNL.out; omega
      have hchd : x.q.st.chd = (kN : Int) := by rw [hkN, hq3, hq2]; rfl
      have hlen : x.q.st.len = (x.q.b.length : Int) := by rw [hq2]; rfl
      have hbl : x.q.b.length ≤ 1000 := by rw [hq2]; exact hgood.bl
      have howx : x.q.st.own = q.st.own := by rw [hq2]; rfl
      have HOWN : Hid (q ∈ N ∧ x.q.st.own = q.st.own ∧ x.q.nm = q.nm) := ⟨hqin, howx, hq3⟩
      have c4 := (HT3.out.below HB.out).get (HLD2.out.below (HB3.out.trans (HB.out.mono HB3.out.size))) HGN.out (by have := HNL.out; omega) x.q.nm hq1
      rw [← hq2] at c4
      have hqb : q.b = x.q.b := by rw [hq2]; rfl
      rw [hqb] at c4
      have c5 := fun wx (hb : Below w3.heap.size w3 wx) => (HT3.out.below hb).list (HLD2.out.below (HB3.out.trans (hb.mono HB3.out.size))) (by have := HNL.out; omega) x.q.nm hq1
      rw [← hkN] at c5
      have HC5 : Hid _ := c5
      have HBSX : Hid (w3.ownsRow w2.heap.size 5 1 (.slice x.A x.q.b.length x.C) x.q.b.length (bv x.q.b)) := hbs
      have HXW : Hid (NCells w3 b (o + i * 12) x ∧ b < w3.heap.size ∧ s.A = some ⟨b, o, none⟩) := ⟨hx, hb1, hAe⟩
      have HBLX : Hid (x.q.b.length ≤ 1000) := hbl
      have hki : ks i ≤ 40000 := by have h1 := HKI.out.1; omega
      have hxr := hx.below HB.out hb1
      clear hkn hc hiA hxa hq1 hq2 hq3 hbs hprev hgood hqin hxx hkN howx hqb c5 hb1 hbl
      obtain ⟨⟨nm, bb, ⟨cz, mz, pz, ct, mt', ver, cv, own, len, chd⟩⟩, Ax, Cx⟩ := x
      simp only at hchd hlen
      subst hchd hlen
      simp only [alA] at c4 HBLX HOWN HPREV HBSX
      obtain ⟨ki, hki2⟩ : ∃ ki, ki = ks i := ⟨_, rfl⟩
      rw [← hki2] at hki ⊢
      have HKI2 : Hid (ki = ks i) := hki2
      clear hki2
      have i0 : ¬ (i : Int) < 0 := by omega
      have i1 : (i : Int) < (s.Q.length : Int) := by omega
      have i2 : (0 : Int) ≤ (i : Int) := by omega
      have i3 : (i : Int).toNat = i := by omega
      have hsv : slV s = .slice (some ⟨b, o, none⟩) s.Q.length s.C := by unfold slV; rw [hAe]
      have HSV : Hid (slV s = .slice (some ⟨b, o, none⟩) s.Q.length s.C) := hsv
      rw [hsv]
      have z0 := hxr.c0
      clear hx hxr hAe hsv
      go_wp2_with fail
      refine c4.mono ?_
      rintro e w4 ⟨A4, C4, rfl, ho4, hb4⟩
      have HB4 : Hid (Below w3.heap.size w3 w4) := HB.out.trans (hb4.mono HB.out.size)
      obtain ⟨W1, hW1⟩ : ∃ W1, W1 = w4.alloc (.cells #[.string (mkS nm), .slice A4 bb.length C4, .int .i64 cz, .int .i64 mz, .int .i64 pz, .int .i64 ct, .int .i64 mt', .int .i64 ver, .int .i64 cv, .int .i64 own, .int .i64 (bb.length : Int), .int .i64 (kN : Int)] 47) := ⟨_, rfl⟩
      obtain ⟨xn, hxn⟩ : ∃ xn : Al, xn = ⟨⟨nm, bb, ⟨cz, mz, pz, ct, mt', ver, cv, own, (bb.length : Int), (kN : Int)⟩⟩, A4, C4⟩ := ⟨_, rfl⟩
      have HNW : Hid (W1.heap[w4.heap.size]? = some (.cells #[.string (mkS nm), .slice A4 bb.length C4, .int .i64 cz, .int .i64 mz, .int .i64 pz, .int .i64 ct, .int .i64 mt', .int .i64 ver, .int .i64 cv, .int .i64 own, .int .i64 (bb.length : Int), .int .i64 (kN : Int)] 47 (0, 0))) := by rw [hW1]; exact heap_alloc_new w4 _
      have HBW : Hid (Below w3.heap.size w3 W1) := by rw [hW1]; exact HB4.out.alloc HB4.out.size _
      have HBS4 : Hid (Bs W1 (.slice A4 bb.length C4) bb) := by rw [hW1]; exact (Bs.of_owns ho4).alloc _
      have HBSX1 : Hid (Bs W1 (.slice Ax bb.length Cx) bb) := (Bs.of_owns HBSX.out).keep (Chg.of_below HBW.out) (fun _ _ => id)
      have HW1 : Hid (W1 = w4.alloc (.cells #[.string (mkS nm), .slice A4 bb.length C4, .int .i64 cz, .int .i64 mz, .int .i64 pz, .int .i64 ct, .int .i64 mt', .int .i64 ver, .int .i64 cv, .int .i64 own, .int .i64 (bb.length : Int), .int .i64 (kN : Int)] 47)) := hW1
      have HS41 : Hid (w4.heap.size < W1.heap.size) := by rw [hW1]; unfold Hid; simp
      clear c4 z0 ho4 hb4 hxn
      go_upto_region 12 with fail
      rw [← hW1]
      clear hW1
      have hxr := HXW.out.1.below HBW.out HXW.out.2.1
      have z0 := hxr.c0
      have c5 := HC5.out W1 HBW.out
      simp only at z0 c5
      clear hxr HC5
      go_wp2_with fail
      refine c5.mono ?_
      rintro e w6 ⟨A6, C6, rfl, hb6⟩
      have HB6 : Hid (Below w3.heap.size w3 w6) := HBW.out.trans (hb6.mono HBW.out.size)
      have HN6 : Hid (w6.heap[w4.heap.size]? = some (.cells #[.string (mkS nm), .slice A4 bb.length C4, .int .i64 cz, .int .i64 mz, .int .i64 pz, .int .i64 ct, .int .i64 mt', .int .i64 ver, .int .i64 cv, .int .i64 own, .int .i64 (bb.length : Int), .int .i64 (kN : Int)] 47 (0, 0))) := by
        show _ = _
        rw [hb6.block _ HS41.out]; exact HNW.out
      have HBS6 : Hid (Bs w6 (.slice A4 bb.length C4) bb ∧ Bs w6 (.slice Ax bb.length Cx) bb) := ⟨HBS4.out.keep (Chg.of_below hb6) (fun _ _ => id), HBSX1.out.keep (Chg.of_below hb6) (fun _ _ => id)⟩
      clear c5 z0 hb6 HBS4 HBSX1 HNW HW1
      go_upto_region 13 with fail
      go_cut [98] from 23 to 117 (fun v98 wx => v98 = .bool false ∧ Below w6.heap.size w6 wx)
      case first =>
        have hnn : NCells w6 w4.heap.size 0 ⟨⟨nm, bb, ⟨cz, mz, pz, ct, mt', ver, cv, own, (bb.length : Int), (kN : Int)⟩⟩, A4, C4⟩ := ncells_new HN6.out
        have hxx := HXW.out.1.below HB6.out HXW.out.2.1
        have mQ := fun d os => Calls.regrown_of (sameNode_told (w := grow (redrawn w6 d) os) ⟨⟨nm, bb, ⟨cz, mz, pz, ct, mt', ver, cv, own, (bb.length : Int), (kN : Int)⟩⟩, Ax, Cx⟩ A4 C4 (HBS6.out.1.keep (Chg.of_below (below_regrown w6 d os)) (fun _ _ => id)) (HBS6.out.2.keep (Chg.of_below (below_regrown w6 d os)) (fun _ _ => id)) (by have := HBLX.out; simp only; omega))
        simp only [alA] at mQ
        have n0 := fun d os => cell_regrown hnn.c0 d os
        have n1 := fun d os => cell_regrown hnn.c1 d os
        have n2 := fun d os => cell_regrown hnn.c2 d os
        have n3 := fun d os => cell_regrown hnn.c3 d os
        have n4 := fun d os => cell_regrown hnn.c4 d os
        have n5 := fun d os => cell_regrown hnn.c5 d os
        have n6 := fun d os => cell_regrown hnn.c6 d os
        have n7 := fun d os => cell_regrown hnn.c7 d os
        have n8 := fun d os => cell_regrown hnn.c8 d os
        have n9 := fun d os => cell_regrown hnn.c9 d os
        have n10 := fun d os => cell_regrown hnn.c10 d os
        have n11 := fun d os => cell_regrown hnn.c11 d os
        have x0 := fun d os => cell_regrown hxx.c0 d os
        have x1 := fun d os => cell_regrown hxx.c1 d os
        have x2 := fun d os => cell_regrown hxx.c2 d os
        have x3 := fun d os => cell_regrown hxx.c3 d os
        have x4 := fun d os => cell_regrown hxx.c4 d os
        have x5 := fun d os => cell_regrown hxx.c5 d os
        have x6 := fun d os => cell_regrown hxx.c6 d os
        have x7 := fun d os => cell_regrown hxx.c7 d os
        have x8 := fun d os => cell_regrown hxx.c8 d os
        have x9 := fun d os => cell_regrown hxx.c9 d os
        have x10 := fun d os => cell_regrown hxx.c10 d os
        have x11 := fun d os => cell_regrown hxx.c11 d os
        simp only [Nat.zero_add] at n0 n1 n2 n3 n4 n5 n6 n7 n8 n9 n10 n11
        simp only at n0 n1 n2 n3 n4 n5 n6 n7 n8 n9 n10 n11 x0 x1 x2 x3 x4 x5 x6 x7 x8 x9 x10 x11
        clear hnn hxx
        by_cases hi0 : 0 < i
        · have hprev := HPREV.out hi0
          obtain ⟨b2, o2, hb2e, hb2, _, hc2⟩ := HROW.out.at (i - 1) (by omega)
          have hy := (ncells hc2).below HB6.out hb2
          have hbo : b2 = b ∧ o2 = o := by
            have h1 := HXW.out.2.2
            rw [hb2e] at h1
            simpa using h1
          rw [hbo.1, hbo.2] at hy
          obtain ⟨pn, hpn⟩ : ∃ pn, pn = (s.Q[i - 1]'(by omega)).q.nm := ⟨_, rfl⟩
          rw [← hpn] at hprev
          have y0 : ∀ d os, (grow (redrawn w6 d) os).cell? ⟨b, o + (i - 1) * 12, none⟩ = some (.string (mkS pn)) := by
            rw [hpn]
            exact fun d os => cell_regrown hy.c0 d os
          clear hy hpn
          have hle1 : Op.bytesLess (mkS nm).toList (mkS pn).toList = false := by
            rw [PA.mkS_toList, PA.mkS_toList, bless_eq]
            exact decide_eq_false (fun h => plt_irrefl _ (plt_trans h hprev))
          have hle2 : ((mkS nm).toList == (mkS pn).toList) = false := by
            rw [mkS_eqb]
            exact decide_eq_false (fun h => plt_irrefl _ (by rw [h] at hprev; exact hprev))
          have hle : binOp .leq 9 (.string (mkS nm)) (.string (mkS pn)) = pure (.bool false) := by
            have : binOp .leq 9 (.string (mkS nm)) (.string (mkS pn)) = pure (.bool (Op.bytesLess (mkS nm).toList (mkS pn).toList || (mkS nm).toList == (mkS pn).toList)) := by simp [binOp, Op.stringOp]
            rw [this, hle1, hle2]; rfl
          have j0 : (0 : Int) < (i : Int) := by omega
          have j1 : decide ((0 : Int) < (i : Int)) = true := by simp; omega
          have j2 : IntKind.i64.wrap ((i : Int) - 1) = ((i - 1 : Nat) : Int) := by rw [IntKind.wrap_i64]; omega
          have j3 : ((i - 1 : Nat) : Int) < (s.Q.length : Int) := by omega
          have j4 : (0 : Int) ≤ ((i - 1 : Nat) : Int) := by omega
          have j5 : ((i - 1 : Nat) : Int).toNat = i - 1 := by omega
          have j6 : ¬ ((i - 1 : Nat) : Int) < 0 := by omega
          refine wp_region_quiet_below (by kernel_rfl) (by kernel_rfl) ?_
          repeat (go_big_quiet_step ((go_at_call 31; exact mQ _ _)))
          refine wpQuiet_nil ?_
          intro _ hw'
          obtain ⟨⟨dq, osq⟩, hw''⟩ := hw'
          subst hw''
          have HB7 : Hid (Below w6.heap.size w6 (grow (redrawn w6 dq) osq)) := below_regrown w6 dq osq
          clear n0 n1 n2 n3 n4 n5 n6 n7 n8 n9 n10 n11 x0 x1 x2 x3 x4 x5 x6 x7 x8 x9 x10 x11 y0 mQ
          go_wp2_with fail
          go_meet
          exact ⟨rfl, HB7.out⟩
        · have i4 : i = 0 := by omega
          have j0 : ¬ (0 : Int) < (i : Int) := by omega
          have j1 : decide ((0 : Int) < (i : Int)) = false := by simp; omega
          clear i4
          refine wp_region_quiet_below (by kernel_rfl) (by kernel_rfl) ?_
          repeat (go_big_quiet_step ((go_at_call 31; exact mQ _ _)))
          refine wpQuiet_nil ?_
          intro _ hw'
          obtain ⟨⟨dq, osq⟩, hw''⟩ := hw'
          subst hw''
          have HB7 : Hid (Below w6.heap.size w6 (grow (redrawn w6 dq) osq)) := below_regrown w6 dq osq
          clear n0 n1 n2 n3 n4 n5 n6 n7 n8 n9 n10 n11 x0 x1 x2 x3 x4 x5 x6 x7 x8 x9 x10 x11 mQ
          go_wp2_with fail
          go_meet
          exact ⟨rfl, HB7.out⟩
      case rest =>
      obtain ⟨rfl, hb7⟩ := hcut
      have HB7 : Hid (Below w6.heap.size w6 wc) := hb7
      clear hb7
      go_upto_region 16 with fail
      go_cut [117] from 23 to 117 (fun v117 wx => v117 = .bool false ∧ Below w6.heap.size w6 wx)
      case first =>
        have HN7 : Hid (wc.heap[w4.heap.size]? = w6.heap[w4.heap.size]?) := HB7.out.block _ (heap_lt HN6.out)
        have HNC : Hid (NCells wc w4.heap.size 0 ⟨⟨nm, bb, ⟨cz, mz, pz, ct, mt', ver, cv, own, (bb.length : Int), (kN : Int)⟩⟩, A4, C4⟩) := ncells_new (HN7.out.trans HN6.out)
        by_cases hown : 1 ≤ own
        · have HS16 : Hid (∀ w', Below wc.heap.size wc w' → w'.cell? ⟨w4.heap.size, 9, none⟩ = some (.int .i64 own) ∧ w'.cell? ⟨w4.heap.size, 0, none⟩ = some (.string (mkS nm))) := fun w' hb => ⟨by rw [hb.cell (p := ⟨w4.heap.size, 9, none⟩) (World.block_lt_of_cell? wc _ HNC.out.c9)]; exact HNC.out.c9, by rw [hb.cell (p := ⟨w4.heap.size, 0, none⟩) (World.block_lt_of_cell? wc _ HNC.out.c0)]; exact HNC.out.c0⟩
          have hS0 := HS16.out wc (Below.refl _ _)
          have hS0b := HS16.out wc.drew (Below.refl _ _).drew
          have hT7 : ∀ w', Below wc.heap.size wc w' → Tr w' tt mt nt N S := fun w' hb => HT3.out.below (HB6.out.trans ((HB7.out.trans (hb.mono HB7.out.size)).mono HB6.out.size))
          have hO7 : ∀ w', Below wc.heap.size wc w' → _ := fun w' hb => (hT7 w' hb).owned (by have := HNL.out; omega) own hown
          have hO0 := hO7 wc.drew (Below.refl _ _).drew
          have HNQ : Hid (∀ ns : List (List UInt8), (∀ q ∈ N, q.st.own = own → q.nm ∈ ns) → nm ∈ ns) := fun ns h => by
            have h1 := h q HOWN.out.1 HOWN.out.2.1.symm
            rw [HOWN.out.2.2]; exact h1
          have g1 : decide ((1 : Int) ≤ own) = true := by simp; omega
          clear hT7 hO7
          go_region_held3 (fun w' => w'.cell? ⟨w4.heap.size, 9, none⟩ = some (.int .i64 own) ∧ w'.cell? ⟨w4.heap.size, 0, none⟩ = some (.string (mkS nm)))
            (first | exact hS0 | exact hS0b | exact hS1 | exact hS2 | go_keep)
            (first
              | (go_at_call 16; refine hO0.mono ?_; rintro e w8 ⟨ns, A8, C8, rfl, hin, hown8, hnl8, hb8⟩; have HB8 : Hid (Below wc.heap.size wc w8) := (Below.refl _ wc).drew.trans hb8; have hS1 := HS16.out w8 HB8.out; have HNS : Hid (nm ∈ ns) := HNQ.out ns hin; have hAm := among_yes hown8 nm HNS.out (by have := HNL.out; omega); clear hin hown8 hnl8 hb8 hO0)
              | (go_at_call 32; refine hAm.mono ?_; rintro e w9 ⟨rfl, hw9⟩; obtain rfl : w8 = w9 := hw9.symm; clear hAm))
          all_goals
            go_wp2_with fail
            go_meet
            exact ⟨rfl, HB7.out.trans (HB8.out.mono HB7.out.size)⟩
        · have n9 := fun d os => cell_regrown HNC.out.c9 d os
          have n0 := fun d os => cell_regrown HNC.out.c0 d os
          simp only [Nat.zero_add] at n9 n0
          have g1 : decide ((1 : Int) ≤ own) = false := by simp; omega
          refine wp_region_quiet_below (by kernel_rfl) (by kernel_rfl) ?_
          repeat (go_big_quiet_step (fail))
          refine wpQuiet_nil ?_
          intro _ hw'
          obtain ⟨⟨dq, osq⟩, hw''⟩ := hw'
          subst hw''
          have HB8 : Hid (Below wc.heap.size wc (grow (redrawn wc dq) osq)) := below_regrown wc dq osq
          clear n0 n9
          go_wp2_with fail
          go_meet
          exact ⟨rfl, HB7.out.trans (HB8.out.mono HB7.out.size)⟩
      case rest =>
      obtain ⟨rfl, hb8⟩ := hcut
      have HB8 : Hid (Below w3.heap.size w3 wc) := HB6.out.trans (hb8.mono HB6.out.size)
      clear hb8
      go_wp2_with fail
      rw [← HSV.out]
      go_roundg (s.Q.length - (i + 1))
      case measure => have := HG.out; omega
      case rel => exact ⟨i + 1, hlt, rfl, by go_num, by rw [HKN.out, HKI2.out]; rfl, HB8.out⟩
  case rest =>
  obtain ⟨c, rfl, hc, hBc⟩ := hcut
  have HBC : Hid (Below w3.heap.size w3 wc) := hBc
  have HC : Hid (c + 1 ≤ s.Q.length) := hc
  have HTC : Hid (Tr wc tt mt nt N S) := HT3.out.below hBc
  have HLC : Hid (PA.Laid wc) := HLD2.out.below (HB3.out.trans (hBc.mono HB3.out.size))
  have HROWC : Hid (RowN wc s.A s.Q s.C) := HS3.out.row.below hBc
  have HBSC : Hid (∀ x ∈ s.Q, Bs wc (.slice x.A x.q.b.length x.C) x.q.b) := fun x hx => (Bs.of_owns (HS3.out.bs x hx)).keep (Chg.of_below hBc) (fun _ _ => id)
  have HISQ : Hid (s.Q.map (·.q) = allF N) := HS3.out.is
  have HQB : Hid (∀ x ∈ s.Q, x.q.b.length ≤ 1000) := fun x hx => by
    have h1 : x.q ∈ allF N := by rw [← HISQ.out]; exact List.mem_map.2 ⟨x, hx, rfl⟩
    obtain ⟨i, hi, he⟩ := List.getElem_of_mem h1
    obtain ⟨q, h2, h3, _⟩ := all_at HGN.out i hi
    rw [he] at h3
    rw [h3]
    exact (HGN.out.all q (look_nm h2).2).bl
  have c10 := new_tr wc
  clear hBc HT3
  go_wp2_with fail
  refine c10.mono ?_
  rintro e w10 ⟨tu, mu, nu, rfl, hTu, hWu, hb10⟩
  have HTU : Hid (Tr w10 tu mu nu [⟨[47], [], zeroSt⟩] []) := hTu
  have HWU : Hid (∀ k, Wt tu mu nu k → wc.heap.size ≤ k) := hWu
  have HB10 : Hid (Below wc.heap.size wc w10) := hb10
  have c11 := load_any hTu (HLC.out.below hb10) (HROWC.out.below hb10) (fun x hx => (HBSC.out x hx).keep (Chg.of_below hb10) (fun _ _ => id)) (by omega) (fun x hx => by have := HQB.out x hx; omega)
  have hAF : areF (s.Q.map (·.q)) = true := by rw [HISQ.out]; exact all_are HGN.out
  rw [hAF, HISQ.out] at c11
  simp only [Bool.true_eq_false, false_implies, and_true, forall_const] at c11
  clear c10 hTu hWu hb10 hAF
  go_wp2_with fail
  refine c11.mono ?_
  rintro e w11 ⟨rfl, mu', hmu', hTu, hcu⟩
  have HTU1 : Hid (Tr w11 tu mu' nu (loadF (allF N)) []) := hTu
  have htuW := HWU.out tu (.inl rfl)
  have HB11 : Hid (Below wc.heap.size wc w11) := HB10.out.trans (hcu.below (fun k e => by rw [e]; exact htuW) HB10.out.size)
  have c12 := (HTC.out.below HB11.out).sits (by have := HSL.out; omega)
  clear c11 hTu hcu htuW
  go_wp2_with fail
  refine c12.mono ?_
  rintro e w12 ⟨As, Cs, rfl, hos, hb12⟩
  have HB12 : Hid (Below wc.heap.size wc w12) := HB11.out.trans (hb12.mono HB11.out.size)
  have hsl2 : (Si.sitsF S).length ≤ 1000000 := by
    unfold Si.sitsF Si.sortS
    rw [List.length_map, List.length_mergeSort, List.length_map]
    have := HSL.out; omega
  have c13 := seat_any (HTU1.out.below hb12) (rowS_of hos) hsl2
  clear c12 hos hb12 hsl2
  go_wp2_with fail
  refine c13.mono ?_
  rintro e w13 ⟨rfl, nu', hnu', hTu, hcu⟩
  have HTU2 : Hid (Tr w13 tu mu' nu' (loadF (allF N)) (seatF (Si.sitsF S))) := hTu
  have htuW := HWU.out tu (.inl rfl)
  have HB13 : Hid (Below wc.heap.size wc w13) := HB12.out.trans (hcu.below (fun k e => by rw [e]; exact htuW) HB12.out.size)
  clear c13 hTu hcu htuW
  have hQ0 : 0 < s.Q.length := by omega
  obtain ⟨b, o, hAe, hb1, _, hc0⟩ := HROWC.out.at 0 hQ0
  have hx := ((ncells hc0).below HB13.out hb1).c0
  have hnm : (s.Q[0]'hQ0).q.nm = [47] := by
    obtain ⟨r, hr⟩ := all_first HGN.out
    have h1 : (s.Q.map (·.q.nm))[0]? = some [47] := by
      have : s.Q.map (·.q.nm) = (allF N).map (·.nm) := by rw [← HISQ.out, List.map_map]; rfl
      rw [this, hr]; rfl
    rw [List.getElem?_map, List.getElem?_eq_getElem hQ0, Option.map_some, Option.some.injEq] at h1
    exact h1
  rw [hnm] at hx
  simp only [Nat.zero_mul, Nat.add_zero] at hx
  have mS := (HTC.out.below HB13.out).same HTU2.out (fun k => (all_load HGN.out k).symm) (fun k => (Si.seat_look HGS.out k).symm)
  have HQL : Hid (0 < s.Q.length ∧ c ≤ s.Q.length - 1 ∧ s.Q.length ≤ 40000) := ⟨hQ0, by omega, hs4⟩
  have hsv : slV s = .slice (some ⟨b, o, none⟩) s.Q.length s.C := by unfold slV; rw [hAe]
  rw [hsv]
  clear hc0 hAe hb1 hnm hsv
  go_upto_region 22 with fail
  have hQ0 := HQL.out.1
  have j0 : (0 : Int) < (s.Q.length : Int) := by omega
  have j1 : decide ((0 : Int) < (s.Q.length : Int)) = true := by simp; omega
  have j2 : IntKind.i64.wrap ((s.Q.length : Int) - 1) = ((s.Q.length - 1 : Nat) : Int) := by rw [IntKind.wrap_i64]; omega
  have j3 : (c : Int) ≤ ((s.Q.length - 1 : Nat) : Int) := by omega
  have j4 : decide ((c : Int) ≤ ((s.Q.length - 1 : Nat) : Int)) = true := by simp; omega
  have j5 : (mkS [47]).toList = [47] := PA.mkS_toList _
  go_wp2_with fail
  refine mS.mono ?_
  rintro e w14 ⟨rfl, hb14⟩
  have HB14 : Hid (Below wc.heap.size wc w14) := HB13.out.trans (hb14.mono HB13.out.size)
  clear hx mS hb14
  go_wp2_with fail
  go_ret
  exact ⟨rfl, HB2.out.trans ((HB3.out.trans ((HBC.out.mono HB3.out.size).trans (HB14.out.mono (Nat.le_trans HB3.out.size HBC.out.size)))).mono HB2.out.size)⟩
end Go.Proofs.YtcdnfgibcochhaaGreatDoor
