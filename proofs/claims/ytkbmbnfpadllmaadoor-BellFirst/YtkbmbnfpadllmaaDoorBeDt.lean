/- The closure that takes out what a change rings: its walk. -/
import Derived.Test.YtkbmbnfpadllmaaDoorBeD
namespace Go.Proofs.YtkbmbnfpadllmaaDoor.We
set_option linter.unusedSimpArgs false
set_option linter.unusedVariables false
open Go.RowKit Go.MapKept
set_option linter.unusedVariables false
set_option linter.unusedSimpArgs false

set_option maxRecDepth 100000 in
set_option maxHeartbeats 4000000 in
theorem toll_any {w : World} {t m bt br bz base : Nat} {z : Int} {L : List Wa} (h : Tx w t m L) (hcl : Cl w t m bt br bz base z) {v : Value} {R : List Rg} (hv : w.heap[br]? = some (.cells #[v] 50 (0, 0))) (ho : w.ownsRow base 56 5 v R.length (R.flatMap rgC))
    {g : Nat} {ss : List Int} (hss : ∀ j (hj : j < ss.length), w.cell? ⟨g, j, none⟩ = some (.int .u8 (ss[j]'hj))) (hsn : ss.length ≤ 1000) (hg : base ≤ g ∧ g < w.heap.size ∧ v.ownBlock ≠ some g) (kd : Int) (p : List UInt8) (hlen : R.length + L.length ≤ 1000000) :
    Calls Tryd.prog 34 #[.int .u8 kd, .string (mkS p), .slice (some ⟨g, 0, none⟩) ss.length ss.length, .pointer (some ⟨bt, 0, none⟩), .pointer (some ⟨br, 0, none⟩), .pointer (some ⟨bz, 0, none⟩)] w fun e w' => e = .returned (.tuple #[]) ∧
      ∃ (hs : List Wa) (v' : Value), hs.Perm (L.filter (hitB p ss)) ∧ Tx w' t m (L.filter fun x => !hitB p ss x) ∧ w'.heap[br]? = some (.cells #[v'] 50 (0, 0)) ∧ w'.ownsRow base 56 5 v' (R ++ hs.map (rgOf kd z)).length ((R ++ hs.map (rgOf kd z)).flatMap rgC) ∧ Chg (Sw m br base) w w' := by
  obtain ⟨i0, hi, hz0, hz1, hz2⟩ := info_parts infoR
  obtain ⟨l1, l2, l3, l4, l5, l6⟩ := hcl.le
  obtain ⟨n1, n2, n3, n4, n5, n6, n7⟩ := hcl.ne
  have hmc := h.mapc
  have hmap := h.map
  have htc : w.cell? ⟨bt, 0, none⟩ = some (.pointer (some ⟨t, 0, none⟩)) := by have := cellAt hcl.tw 0; simpa using this
  have HX : Hid (Tx w t m L) := h
  have HCL : Hid (Cl w t m bt br bz base z) := hcl
  have HV : Hid (w.heap[br]? = some (.cells #[v] 50 (0, 0))) := hv
  have HO : Hid (w.ownsRow base 56 5 v R.length (R.flatMap rgC)) := ho
  have HSS : Hid (∀ j (hj : j < ss.length), w.cell? ⟨g, j, none⟩ = some (.int .u8 (ss[j]'hj))) := hss
  clear h hcl hv ho hss
  go_enter Tryd.func34, Tryd.ntmps34
  go_wp2_with (first
    | (at_range; refine wpList_rng rfl _ rfl rfl hmap ?_; intro w2 hr2 hc2 hs2)
    | fail)
  have HR : Hid (Ranges w2 m w.heap.size L L) := hr2
  have HC2 : Hid (Chg Non w w2) := hc2
  clear hr2 hc2 hmap hmc htc
  go_frame
  go_loopw [] (fun wr => ∃ (left ns Lc : List Wa) (v1 : Value), Ranges wr m w.heap.size Lc left ∧ Tk (hitB p ss) L Lc left ns ∧ wr.heap[br]? = some (.cells #[v1] 50 (0, 0)) ∧ wr.ownsRow base 56 5 v1 (R ++ ns.map (rgOf kd z)).length ((R ++ ns.map (rgOf kd z)).flatMap rgC) ∧ v1.ownBlock ≠ some g ∧ v1.ownBlock ≠ some w.heap.size ∧ w.heap.size < wr.heap.size ∧ Chg (fun k => k = m ∨ k = br ∨ base ≤ k ∧ k ≠ g) w wr) (fun wr => wr.rangeLeft m w.heap.size)
  case atStart =>
    refine ⟨L, [], L, v, HR.out, Tk.start HX.out.map.names, ?_, by simpa using ownKeep HO.out HC2.out (fun _ _ => id), hg.2.2, ?_, by omega, HC2.out.weak fun _ _ e => e.elim⟩
    · rw [HC2.out.block br (by omega) id]; exact HV.out
    · intro e
      obtain ⟨cur, hcu, _⟩ := ownBlk HO.out e
      have := heapLt hcu
      omega
  case round =>
    obtain ⟨left, ns, Lc, v1, hrg, htk, hvb, hown, hvg, hvr, hsz, hch⟩ := hrel
    go_wp2_with (first
      | (at_next; refine wpList_nxt rfl _ rfl rfl hrg ?_ ?_)
      | fail)
    · intro hl0
      subst hl0
      obtain ⟨e1, e2⟩ := htk.fin
      have hch' : Chg (Sw m br base) w wr := hch.weak fun k _ e => by rcases e with e | e | e; exact .inl e; exact .inr (.inl e); exact .inr (.inr e.1)
      have HF : Hid (∃ (hs : List Wa) (v' : Value), hs.Perm (L.filter (hitB p ss)) ∧ Tx wr t m (L.filter fun x => !hitB p ss x) ∧ wr.heap[br]? = some (.cells #[v'] 50 (0, 0)) ∧ wr.ownsRow base 56 5 v' (R ++ hs.map (rgOf kd z)).length ((R ++ hs.map (rgOf kd z)).flatMap rgC) ∧ Chg (Sw m br base) w wr) := by
        refine ⟨ns, v1, e2, ⟨?_, by rw [← e1]; exact hrg.map, fun x hx => HX.out.good x (List.mem_filter.1 hx).1⟩, hvb, hown, hch'⟩
        rw [hch'.block t (by omega) (by rintro (e | e | e) <;> omega)]
        exact HX.out.cell
      clear hrg htk hvb hown hvg hvr hsz hch hch' e1 e2
      go_wp2_with fail
      go_end0
      exact ⟨rfl, HF.out⟩
    · intro k1 k2 q w3 hl hq hrg3 hc3 hs3 hen
      obtain ⟨cn, so, qp⟩ := q
      simp only at hen
      have hc3' : Chg (fun k => k = m ∨ k = br ∨ base ≤ k ∧ k ≠ g) w w3 := hch.trans' hc3 (fun k hk e => by omega)
      obtain ⟨W, hW⟩ : ∃ W, W = w3.alloc (.cells #[.int .i64 cn, .int .u8 so, .string (mkS qp)] 69) := ⟨_, rfl⟩
      have hgS : ¬ (g = m ∨ g = br ∨ base ≤ g ∧ g ≠ g) := by rintro (e | e | ⟨_, e⟩) <;> first | exact e rfl | omega
      have hcW : Chg (fun k => k = m ∨ k = br ∨ base ≤ k ∧ k ≠ g) w W := by rw [hW]; exact hc3'.trans (Chg.alloc _ _ _)
      have hbW : W.heap[w3.heap.size]? = some (.cells #[.int .i64 cn, .int .u8 so, .string (mkS qp)] 69 (0, 0)) := by rw [hW]; exact heap_alloc_new _ _
      have d0 := cellAt hbW 0
      have d1 := cellAt hbW 1
      have d2 := cellAt hbW 2
      simp at d0 d1 d2
      have hss' : ∀ j (hj : j < ss.length), W.cell? ⟨g, j, none⟩ = some (.int .u8 (ss[j]'hj)) := fun j hj => (hcW.cell (a := ⟨g, j, none⟩) hg.2.1 hgS).trans (HSS.out j hj)
      have hhas := has_any hss' hsn so
      have hwW : Chg Non w3 W := by rw [hW]; exact Chg.alloc _ _ _
      have hw3W : Chg (fun k => k = w.heap.size) wr W := hc3.trans (hwW.weak fun _ _ e => e.elim)
      have hRGW : Ranges W m w.heap.size Lc (k1 ++ k2) := hrg3.keep hwW id id
      have hvbW : W.heap[br]? = some (.cells #[v1] 50 (0, 0)) := by rw [hw3W.block br (heapLt hvb) (by omega)]; exact hvb
      have hownW : W.ownsRow base 56 5 v1 (R ++ ns.map (rgOf kd z)).length ((R ++ ns.map (rgOf kd z)).flatMap rgC) := ownKeep hown hw3W (fun k hk e => hvr (by rw [hk, e]))
      have hszW : w.heap.size < W.heap.size := by have := hw3W.size; omega
      have HM : Hid (W.rangeLeft m w.heap.size < wr.rangeLeft m w.heap.size) := by
        show _ < _
        rw [hRGW.left_eq, hrg.left_eq, hl]; simp
      have HF : Hid (Ranges W m w.heap.size Lc (k1 ++ k2) ∧ W.heap[br]? = some (.cells #[v1] 50 (0, 0)) ∧ W.ownsRow base 56 5 v1 (R ++ ns.map (rgOf kd z)).length ((R ++ ns.map (rgOf kd z)).flatMap rgC) ∧ w.heap.size < W.heap.size ∧ Chg (fun k => k = m ∨ k = br ∨ base ≤ k ∧ k ≠ g) w W) := ⟨hRGW, hvbW, hownW, hszW, hcW⟩
      have HTK : Hid (Tk (hitB p ss) L Lc (k1 ++ ⟨cn, so, qp⟩ :: k2) ns) := by rw [← hl]; exact htk
      have hfr := frozenAt hvbW 0
      have hw3 : w.heap.size < w3.heap.size := by omega
      have hRGlt : m < w3.heap.size := by omega
      clear hgS hrg hrg3 hc3 hs3 hss' hwW hw3W hRGW hvbW hownW hszW hc3' hcW hch hvb hown htk hl
      go_upto_region 3 with fail
      rw [← hW]
      by_cases hp : qp = p
      · by_cases hm : so ∈ ss
        · have HQ : Hid (hitB p ss ⟨cn, so, qp⟩ = true) := by show _ = _; simp [hitB, hp, hm]
          have hbe : (mkS qp).toList = (mkS p).toList := by rw [hp]
          rw [decide_eq_true hm] at hhas
          have hnq : (⟨cn, so, qp⟩ : Wa) ∉ k1 ++ k2 := by
            have := HTK.out.nd
            rw [List.nodup_append] at this
            intro e
            rcases List.mem_append.1 e with e | e
            · exact this.2.2 _ e _ (.head _) rfl
            · exact (List.nodup_cons.1 this.2.1).1 e
          obtain ⟨w5, hrun5, hR5, hc5, hs5⟩ := (HF.out.1.keep (Chg.drew Non W) id id).delete ⟨cn, so, qp⟩ hnq 0
          simp only [keyV] at hrun5
          have hCLW := HCL.out.keep (HF.out.2.2.2.2.weak fun k _ e => by rcases e with e | e | e; exact .inl e; exact .inr (.inl e); exact .inr (.inr e.1))
          have hmW : W.cell? ⟨t, 0, none⟩ = some (.map (some m)) := (HF.out.2.2.2.2.cell (a := ⟨t, 0, none⟩) (by show t < _; omega) (by rintro (e | e | e); exact n7 e; exact n3 e; exact absurd e.1 (by show ¬ base ≤ t; omega))).trans HX.out.mapc
          have hKm : ¬ w3.heap.size = m := by have := hRGlt; omega
          have a0 : W.cell? ⟨bt, 0, none⟩ = some (.pointer (some ⟨t, 0, none⟩)) := by have := cellAt hCLW.tw 0; simpa using this
          have hzW : W.cell? ⟨bz, 0, none⟩ = some (.int .i64 z) := by have := cellAt hCLW.zx 0; simpa using this
          have hvW : W.cell? ⟨br, 0, none⟩ = some v1 := by have := cellAt HF.out.2.1 0; simpa using this
          have up : ∀ {a : Addr} {x : Value}, W.cell? a = some x → ¬ a.block = m → w5.cell? a = some x := by
            intro a x hx hne
            exact (hc5.cell (a := a) (by obtain ⟨d, i, pt⟩ := a; rcases Nat.lt_or_ge d W.heap.size with e | e; exact e; simp [World.cell?, Array.getElem?_eq_none e] at hx) hne).trans hx
          have e0 := up a0 n5
          have e1 := up hmW n7
          have e2 := up d0 hKm
          have e3 := up d1 hKm
          have e4 := up d2 hKm
          have e5 := up hzW n6
          have e6 := up hvW (fun e => n4 e.symm)
          have hW5 : Chg (fun k => k = m) W w5 := (Chg.drew _ W).trans hc5
          have hKlt : w3.heap.size < w5.heap.size := by have := heapLt hbW; have := hW5.size; omega
          have hbr5 : w5.heap[br]? = some (.cells #[v1] 50 (0, 0)) := by rw [hW5.block br (heapLt HF.out.2.1) (fun e => n4 e.symm)]; exact HF.out.2.1
          have hf6 := frozenAt hbr5 0
          have HO5 : Hid (w5.ownsRow base 56 5 v1 (R ++ ns.map (rgOf kd z)).length ((R ++ ns.map (rgOf kd z)).flatMap rgC)) := ownKeep HF.out.2.2.1 hW5 (fun k hk e => by have := (ownBlk HF.out.2.2.1 hk).choose_spec.2; omega)
          have HF5 : Hid (Ranges w5 m w.heap.size (Lc.erase ⟨cn, so, qp⟩) (k1 ++ k2) ∧ w5.heap[br]? = some (.cells #[v1] 50 (0, 0)) ∧ w.heap.size < w5.heap.size ∧ Chg (fun k => k = m ∨ k = br ∨ base ≤ k ∧ k ≠ g) w w5) :=
            ⟨hR5, hbr5, by have := hW5.size; have := HF.out.2.2.2.1; omega, HF.out.2.2.2.2.trans (hW5.weak fun k _ e => .inl e)⟩
          have HLEN : Hid ((R ++ ns.map (rgOf kd z)).length + 1 ≤ 1000000) := by
            show _ ≤ _
            have := HTK.out.len' HQ.out
            simp only [List.length_append, List.length_map]
            omega
          have hch5lt : br < w3.heap.size := by omega
          clear hm hp hW up hCLW hR5 hc5 hs5 hW5 hbr5 hnq hRGlt
          go_upto_region 4 with (first | (go_at_call 35; refine hhas.mono ?_; rintro e W ⟨rfl, rfl⟩) | fail)
          clear hhas
          go_region_held3 (fun w' => w'.cell? ⟨bt, 0, none⟩ = some (.pointer (some ⟨t, 0, none⟩)) ∧ w'.cell? ⟨t, 0, none⟩ = some (.map (some m)) ∧ w'.cell? ⟨w3.heap.size, 0, none⟩ = some (.int .i64 cn) ∧ w'.cell? ⟨w3.heap.size, 1, none⟩ = some (.int .u8 so) ∧ w'.cell? ⟨w3.heap.size, 2, none⟩ = some (.string (mkS qp)))
            (first | exact ⟨a0, hmW, d0, d1, d2⟩ | exact ⟨e0, e1, e2, e3, e4⟩ | go_keep)
            (fail)
          clear hrun5 a0 hmW d0 d1 d2 hzW hvW e0 e1 hfr hbW hen hq
          have HMW : Hid (W.rangeLeft m w.heap.size < wr.rangeLeft m w.heap.size) := HM.out
          have HFW : Hid (W.rangeLeft m w.heap.size = (k1 ++ k2).length) := HF.out.1.left_eq
          clear HM HF
          obtain ⟨RN, hRN⟩ : ∃ RN, RN = R ++ ns.map (rgOf kd z) := ⟨_, rfl⟩
          rw [← hRN] at HO5 HLEN
          have HRN : Hid (RN = R ++ ns.map (rgOf kd z)) := hRN
          have hln : RN.length + 1 ≤ 1000000 := HLEN.out
          have hne1 : ¬ w3.heap.size = br := by have := hch5lt; omega
          clear hRN
          go_upto_region 5 with fail
          go_region_law ((first
            | (refine step_append_lies _ rfl (.tmp 34) (.tmp 42) 50 rfl base 56 i0 _ 5 40 Tryd.underlying50 hi hz0 hz1 hz2 rfl (by decide) v1 RN.length (RN.flatMap rgC) rfl HO6.out ⟨w6.heap.size, 0, none⟩ 1 1 [.int .i64 cn, .int .u8 kd, .int .u8 so, .string (mkS qp), .int .i64 z] rfl rfl (World.news_of_block (heap_alloc_new w6 _)) (fun u hu => by simp at hu; rcases hu with rfl | rfl | rfl | rfl | rfl <;> rfl) (by omega) (by unfold maxLen; omega) (by omega) (by simp; omega) _ rfl ?_; intro g7 cap7 w7 ho7 hg7 hat7 hlt7; (have HE7 : Hid (w7.heap[br]? = some (.cells #[v1] 50 (0, 0))) := (hg7.block _ (by simp; omega) (fun e => by have := (ownBlk HO5.out e.symm).choose_spec.2; omega)).trans ((Below.heap_alloc _ _ _ (by omega)).trans HE6.out)); (have hce7 : w7.cell? ⟨br, 0, none⟩ = some v1 := cellAt HE7.out 0); (have hfe7 : w7.frozen? ⟨br, 0, none⟩ = false := frozenAt HE7.out 0))
            | (go_simp; go_at_call 29; refine (event_any ⟨cn, so, qp⟩ kd z _).mono ?_; rintro e w6 ⟨rfl, hB6⟩; (have hB6' : Below w5.heap.size w5 w6 := ((Below.refl w5.heap.size w5).drew).trans hB6); (have hs6 : w5.heap.size ≤ w6.heap.size := hB6'.size); (have HE6 : Hid (w6.heap[br]? = some (.cells #[v1] 50 (0, 0))) := (hB6'.block br (by omega)).trans HF5.out.2.1); (have hce6 : w6.cell? ⟨br, 0, none⟩ = some v1 := cellAt HE6.out 0); (have hca6 : (w6.alloc (.cells #[.int .i64 cn, .int .u8 kd, .int .u8 so, .string (mkS qp), .int .i64 z] 56)).cell? ⟨br, 0, none⟩ = some v1 := cellAt ((Below.heap_alloc _ _ _ (by omega)).trans HE6.out) 0); (have hcn6 : w6.cell? ⟨w3.heap.size, 0, none⟩ = some (.int .i64 cn) := (hB6'.cell (p := ⟨w3.heap.size, 0, none⟩) hKlt).trans e2); (have HO6 : Hid ((w6.alloc (.cells #[.int .i64 cn, .int .u8 kd, .int .u8 so, .string (mkS qp), .int .i64 z] 56)).ownsRow base 56 5 v1 RN.length (RN.flatMap rgC)) := ownKeep (ownKeep HO5.out (Chg.of_below hB6') (fun _ _ => id)) (Chg.alloc Non w6 _) (fun _ _ => id)))))
          all_goals
            obtain ⟨H1, H2, H3⟩ := hit_end HF5.out.1 HF5.out.2.1 HRN.out hB6' ho7 hg7 hat7 ⟨l2, l4, l6, n4⟩ hg hvg hvr hKlt hw3 HF5.out.2.2.2 (fun k hk => (ownBlk HO5.out hk).choose_spec.2)
            obtain ⟨w8, hw8⟩ : ∃ w8, w8 = w7.setCell ⟨br, 0, none⟩ (Value.slice (some ⟨g7, 0, none⟩) (RN.length + 1) cap7) := ⟨_, rfl⟩
            rw [← hw8] at H1 H2 H3
            rw [← hw8]
            have HE : Hid (Ranges w8 m w.heap.size (Lc.erase ⟨cn, so, qp⟩) (k1 ++ k2) ∧ (w8.heap[br]? = some (.cells #[(Value.slice (some ⟨g7, 0, none⟩) (RN.length + 1) cap7)] 50 (0, 0)) ∧ w8.ownsRow base 56 5 (Value.slice (some ⟨g7, 0, none⟩) (RN.length + 1) cap7) (R ++ (ns ++ [(⟨cn, so, qp⟩ : Wa)]).map (rgOf kd z)).length ((R ++ (ns ++ [(⟨cn, so, qp⟩ : Wa)]).map (rgOf kd z)).flatMap rgC) ∧ (Value.slice (some ⟨g7, 0, none⟩) (RN.length + 1) cap7).ownBlock ≠ some g ∧ (Value.slice (some ⟨g7, 0, none⟩) (RN.length + 1) cap7).ownBlock ≠ some w.heap.size ∧ w.heap.size < w8.heap.size ∧ Chg (fun k => k = m ∨ k = br ∨ base ≤ k ∧ k ≠ g) w w8) ∧ w8.rangeLeft m w.heap.size = (k1 ++ k2).length) := ⟨H1, H2, H3⟩
            clear H1 H2 H3 hw8 ho7 hg7 hat7 hB6' hB6 hce6 hca6 hcn6 HE6 HO6 HE7 hce7 hfe7
            go_wp2_with fail
            go_roundw
            case rel => exact ⟨k1 ++ k2, ns ++ [⟨cn, so, qp⟩], Lc.erase ⟨cn, so, qp⟩, _, HE.out.1, HTK.out.gone HQ.out, HE.out.2.1⟩
            case measure => have := HMW.out; have := HFW.out; rw [HE.out.2.2]; omega
        · have HQ : Hid (hitB p ss ⟨cn, so, qp⟩ = false) := by show _ = _; simp [hitB, hm]
          have hbe : (mkS qp).toList = (mkS p).toList := by rw [hp]
          rw [decide_eq_false hm] at hhas
          clear hm hp hW
          go_wp2_with (first | (go_at_call 35; refine hhas.mono ?_; rintro e w' ⟨rfl, rfl⟩) | fail)
          go_roundw
          case rel => exact ⟨k1 ++ k2, ns, Lc, v1, HF.out.1, HTK.out.kept HQ.out, HF.out.2.1, HF.out.2.2.1, hvg, hvr, HF.out.2.2.2⟩
          case measure => exact HM.out
      · have HQ : Hid (hitB p ss ⟨cn, so, qp⟩ = false) := by show _ = _; simp [hitB, hp]
        have hbe : ¬ (mkS qp).toList = (mkS p).toList := by rw [PA.mkS_toList, PA.mkS_toList]; exact hp
        clear hhas hp hW
        go_wp2_with fail
        go_roundw
        case rel => exact ⟨k1 ++ k2, ns, Lc, v1, HF.out.1, HTK.out.kept HQ.out, HF.out.2.1, HF.out.2.2.1, hvg, hvr, HF.out.2.2.2⟩
        case measure => exact HM.out
end Go.Proofs.YtkbmbnfpadllmaaDoor.We
