/- The walk of the document's Scan, and of SegmentScans. -/
import Derived.Test.YtaeoafedfgbcaaaGreatDoorSgXa
import Derived.Test.YtaeoafedfgbcaaaGreatDoorSgRg
import Derived.Test.YtaeoafedfgbcaaaGreatDoorRfU
import Derived.Deep.CutRange
namespace Go.Proofs.YtaeoafedfgbcaaaGreatDoor.DD
set_option linter.unusedVariables false
open Go.RowKit Go.Sort
set_option linter.unusedVariables false

def Zfl : Fl := ⟨0, 0, 0, 0, 0, 0, [], [], 0, 0, 0, 0, 0, 0, [], 0⟩
set_option maxRecDepth 100000 in
set_option maxHeartbeats 40000000 in
theorem rscan_any {w : World} {x : Value} {l : List UInt8} (hx : Bs w x l) (hl : l.length ≤ 4294967296) (hL : PA.Laid w) :
    Calls Tryz.prog 6 #[x] w fun e w' => ∃ (els : List El2) (vd ve : Value), e = .returned (.tuple #[vd, ve, .int .i64 ((catI (scanF l 0)).length : Nat)]) ∧ els.map El2.p = scanF l 0 ∧
      w'.ownsRow w.heap.size 41 16 vd (scanF l 0).length (evd2 els) ∧ w'.ownsRow w.heap.size 3 1 ve (scanF l 0).length ((endsF 0 (scanF l 0)).map nI) ∧ (∀ e ∈ els, DV w' e) ∧ Below w.heap.size w w' := by
  have HX : Hid (Bs w x l) := hx
  obtain ⟨A, C, rfl⟩ := bs_form hx
  have HL : Hid (PA.Laid w) := hL
  clear hx hL
  have hFIN : ∀ (its : List It) (els : List El2) (Ad : Option Addr) (Cd : Nat) (Ae : Option Addr) (Ce t : Nat) (W W' : World), Rs l w its els Ad Cd Ae Ce t W → Below W.heap.size W W' → scanF (l.drop t) (lastZ 0 its) = [] → ∃ (els : List El2) (vd ve : Value), Ending.returned (.tuple #[.slice Ad its.length Cd, .slice Ae its.length Ce, .int .i64 (t : Int)]) = .returned (.tuple #[vd, ve, .int .i64 ((catI (scanF l 0)).length : Nat)]) ∧ els.map El2.p = scanF l 0 ∧
      W'.ownsRow w.heap.size 41 16 vd (scanF l 0).length (evd2 els) ∧ W'.ownsRow w.heap.size 3 1 ve (scanF l 0).length ((endsF 0 (scanF l 0)).map nI) ∧ (∀ e ∈ els, DV W' e) ∧ Below w.heap.size w W' := by
    intro its els Ad Cd Ae Ce t W W' hP hb hs
    have hQ := hP.below hb
    have e1 : scanF l 0 = its := by rw [hQ.sc, hs, List.append_nil]
    rw [e1]
    exact ⟨els, _, _, by rw [hQ.tt], hQ.el, hQ.rd, hQ.re, fun e he => (hQ.at' e he).val, hQ.bel⟩
  have HFIN : Hid _ := hFIN
  clear hFIN
  go_enter Tryz.func6, Tryz.ntmps6
  go_wp2_with fail
  go_loopg [5, 6, 7, 8] l.length (fun g v5 v6 v7 v8 wr => ∃ (its : List It) (els : List El2) (Ad : Option Addr) (Cd : Nat) (Ae : Option Addr) (Ce t : Nat), g = l.length - t ∧ v5 = .slice Ad its.length Cd ∧ v6 = .slice Ae its.length Ce ∧ v7 = .int .i64 (t : Int) ∧ v8 = .int .i64 (lastZ 0 its) ∧ Rs l w its els Ad Cd Ae Ce t wr)
  case atStart => exact ⟨[], [], none, 0, none, 0, 0, by simp, rfl, rfl, rfl, rfl, Rs.start l w⟩
  case round =>
  obtain ⟨its, els, Ad, Cd, Ae, Ce, t, rfl, rfl, rfl, rfl, rfl, hP⟩ := hrel
  have HP : Hid (Rs l w its els Ad Cd Ae Ce t wr) := hP
  have htl := hP.tl
  clear hP
  obtain ⟨A', hsl, hbd⟩ := slice_from (Bs.below' HX.out HP.out.bel) t htl
  have hun := RA.refUnframe_any hbd (by rw [List.length_drop]; omega)
  have HHX : Hid (∀ x, unframe (l.drop t) = some x → 8 + x.length ≤ l.length - t) := fun x hx => by have := (unframe_whole hx).2.2; rw [List.length_drop] at this; exact this
  clear hbd
  obtain ⟨m, hm⟩ : ∃ m, m = l.length - t := ⟨_, rfl⟩
  rw [← hm] at hsl hun
  have HM : Hid (m = l.length - t) := hm
  obtain ⟨z, hz⟩ : ∃ z, z = lastZ 0 its := ⟨_, rfl⟩
  have HZ : Hid (z = lastZ 0 its) := hz
  rw [← hz]
  clear hm hz
  have hu0 : unframe (l.drop t) = unframe (l.drop t) := rfl
  generalize hU : unframe (l.drop t) = U at hun
  have HU : Hid (unframe (l.drop t) = U) := hU
  clear hU hu0
  cases U with
  | none =>
    go_wp2_with fail
    refine hun.mono ?_
    rintro e w5 ⟨rfl, hB5⟩
    have HB5 : Hid (Below wr.heap.size wr w5) := hB5
    clear hun hB5
    go_wp2_with fail
    go_ret3
    exact HFIN.out its els Ad Cd Ae Ce t wr w5 HP.out HB5.out (scanF_none HU.out _)
  | some x =>
    have hxl := HHX.out x HU.out
    go_wp2_with fail
    refine hun.mono ?_
    rintro e w5 ⟨v, w5a, rfl, hN5, hB5, hs5⟩
    have HB5 : Hid (Below wr.heap.size wr w5) := hB5
    have hrg := rgetf_any hN5.bs (by omega) (HL.out.below (HP.out.bel.trans (hB5.mono HP.out.bel.size)))
    rw [deedRf_eq] at hrg
    clear hun hN5 hB5 hs5 hsl
    have hx63 : (x.length : Int) ≤ 4294967296 := by omega
    generalize hD : deedOf x = D at hrg
    have HD : Hid (deedOf x = D) := hD
    clear hD
    cases D with
    | none =>
      go_wp2_with fail
      refine hrg.mono ?_
      rintro e w6 ⟨rfl, hB6⟩
      have HB6 : Hid (Below wr.heap.size wr w6) := HB5.out.trans (hB6.mono HB5.out.size)
      clear hrg hB6
      obtain ⟨wz, hwz⟩ : ∃ X, X = w6.alloc (.cells #[.int .i64 0, .int .u8 0, .int .i64 0, .int .i64 0, .int .i64 0, .int .i64 0, .string ⟨#[]⟩, .slice none 0 0, .int .i64 0, .int .i64 0, .int .i64 0, .int .i64 0, .int .i64 0, .int .i64 0, .slice none 0 0, .slice none 0 0] 41) := ⟨_, rfl⟩
      have hz0 : wz.heap[w6.heap.size]? = some (.cells #[.int .i64 0, .int .u8 0, .int .i64 0, .int .i64 0, .int .i64 0, .int .i64 0, .string ⟨#[]⟩, .slice none 0 0, .int .i64 0, .int .i64 0, .int .i64 0, .int .i64 0, .int .i64 0, .int .i64 0, .slice none 0 0, .slice none 0 0] 41 (0, 0)) := by rw [hwz]; exact heap_alloc_new w6 _
      have hth := there16 hz0
      obtain ⟨w7, hw7⟩ : ∃ X, X = wz.setCells w6.heap.size 0 [.int .i64 0, .int .u8 0, .int .i64 0, .int .i64 0, .int .i64 0, .int .i64 0, .string ⟨#[]⟩, .slice none 0 0, .int .i64 0, .int .i64 0, .int .i64 0, .int .i64 0, .int .i64 0, .int .i64 0, .slice none 0 0, .slice none 0 0] := ⟨_, rfl⟩
      obtain ⟨h7, hc7⟩ := set16L hz0 (.int .i64 0) (.int .u8 0) (.int .i64 0) (.int .i64 0) (.int .i64 0) (.int .i64 0) (.string ⟨#[]⟩) (.slice none 0 0) (.int .i64 0) (.int .i64 0) (.int .i64 0) (.int .i64 0) (.int .i64 0) (.int .i64 0) (.slice none 0 0) (.slice none 0 0)
      rw [← hw7] at h7 hc7
      have hbz : Below w6.heap.size w6 wz := by rw [hwz]; exact (Below.refl _ _).alloc (Nat.le_refl _) _
      have HB7 : Hid (Below w6.heap.size w6 w7) := hbz.trans (hc7.below (fun i e => by omega) hbz.size)
      have H7 : Hid _ := h7
      have HW7 : Hid _ := hw7
      have HTH : Hid _ := hth
      clear hbz hz0 h7 hc7 hw7 hth
      subst hwz

      have hon : (#[.int .i64 0, .int .u8 0, .int .i64 0, .int .i64 0, .int .i64 0, .int .i64 0, .string ⟨#[]⟩, .slice none 0 0, .int .i64 0, .int .i64 0, .int .i64 0, .int .i64 0, .int .i64 0, .int .i64 0, .slice none 0 0, .slice none 0 0] : Array Value).all (·.oneCell') = true := all_oneCell_toArray zero16
      have HON : Hid _ := hon
      clear hon
      go_wp2_with (first | (refine wpList_store_mid rfl 41 (.tmp 12) (.tmp 30) rfl w6.heap.size 0 #[.int .i64 0, .int .u8 0, .int .i64 0, .int .i64 0, .int .i64 0, .int .i64 0, .string ⟨#[]⟩, .slice none 0 0, .int .i64 0, .int .i64 0, .int .i64 0, .int .i64 0, .int .i64 0, .int .i64 0, .slice none 0 0, .slice none 0 0] rfl rfl HTH.out infoDs HON.out ?_; rw [← HW7.out]) | fail)
      go_ret3
      exact HFIN.out its els Ad Cd Ae Ce t wr w7 HP.out (HB6.out.trans (HB7.out.mono HB6.out.size)) (scanF_bad HU.out HD.out _)
    | some p =>
      obtain ⟨f, ps⟩ := p
      go_wp2_with fail
      refine hrg.mono ?_
      rintro e w6 ⟨A1, c1, A2, c2, A3, c3, rfl, hdv, hB6, hfar⟩
      have HB6 : Hid (Below wr.heap.size wr w6) := HB5.out.trans (hB6.mono HB5.out.size)
      have HAT : Hid (EAt w6 (fun k => (Value.slice Ad its.length Cd).ownBlock = some k ∨ (Value.slice Ae its.length Ce).ownBlock = some k) ⟨(f, ps), A1, c1, A2, c2, A3, c3⟩) := EAt.new hfar (fun k e => .inl (by
        have hb := HB5.out.size
        rcases e with e | e
        · have := (HP.out.rd.lt k e).2; omega
        · have := (HP.out.re.lt k e).2; omega))
      clear hrg hdv hB6 hfar
      obtain ⟨wz, hwz⟩ : ∃ X, X = w6.alloc (.cells #[.int .i64 0, .int .u8 0, .int .i64 0, .int .i64 0, .int .i64 0, .int .i64 0, .string ⟨#[]⟩, .slice none 0 0, .int .i64 0, .int .i64 0, .int .i64 0, .int .i64 0, .int .i64 0, .int .i64 0, .slice none 0 0, .slice none 0 0] 41) := ⟨_, rfl⟩
      have hz0 : wz.heap[w6.heap.size]? = some (.cells #[.int .i64 0, .int .u8 0, .int .i64 0, .int .i64 0, .int .i64 0, .int .i64 0, .string ⟨#[]⟩, .slice none 0 0, .int .i64 0, .int .i64 0, .int .i64 0, .int .i64 0, .int .i64 0, .int .i64 0, .slice none 0 0, .slice none 0 0] 41 (0, 0)) := by rw [hwz]; exact heap_alloc_new w6 _
      have hth := there16 hz0
      obtain ⟨w7, hw7⟩ : ∃ X, X = wz.setCells w6.heap.size 0 [.int .i64 f.zxid, .int .u8 f.kind, .int .i64 f.session, .int .i64 f.turn, .int .i64 f.xid, .int .i64 f.time, .string (mkS f.path), .slice A1 f.data.length c1, .int .i64 f.owner, .int .i64 f.version, .int .i64 f.cversion, .int .i64 f.timeout, .int .i64 f.err, .int .i64 f.cver, .slice A2 f.mems.length c2, .slice A3 f.np c3] := ⟨_, rfl⟩
      obtain ⟨h7, hc7⟩ := set16L hz0 (.int .i64 f.zxid) (.int .u8 f.kind) (.int .i64 f.session) (.int .i64 f.turn) (.int .i64 f.xid) (.int .i64 f.time) (.string (mkS f.path)) (.slice A1 f.data.length c1) (.int .i64 f.owner) (.int .i64 f.version) (.int .i64 f.cversion) (.int .i64 f.timeout) (.int .i64 f.err) (.int .i64 f.cver) (.slice A2 f.mems.length c2) (.slice A3 f.np c3)
      rw [← hw7] at h7 hc7
      have hbz : Below w6.heap.size w6 wz := by rw [hwz]; exact (Below.refl _ _).alloc (Nat.le_refl _) _
      have HB7 : Hid (Below w6.heap.size w6 w7) := hbz.trans (hc7.below (fun i e => by omega) hbz.size)
      have H7 : Hid _ := h7
      have HW7 : Hid _ := hw7
      have HTH : Hid _ := hth
      clear hbz hz0 h7 hc7 hw7 hth
      subst hwz

      have hon : (#[.int .i64 f.zxid, .int .u8 f.kind, .int .i64 f.session, .int .i64 f.turn, .int .i64 f.xid, .int .i64 f.time, .string (mkS f.path), .slice A1 f.data.length c1, .int .i64 f.owner, .int .i64 f.version, .int .i64 f.cversion, .int .i64 f.timeout, .int .i64 f.err, .int .i64 f.cver, .slice A2 f.mems.length c2, .slice A3 f.np c3] : Array Value).all (·.oneCell') = true := all_oneCell_toArray (ev2_one ⟨(f, ps), A1, c1, A2, c2, A3, c3⟩)
      have HON : Hid _ := hon
      have q0 : w7.cell? ⟨w6.heap.size, 0, none⟩ = some (.int .i64 f.zxid) := by rw [cell_at H7.out]; rfl
      have HBW : Hid (Below wr.heap.size wr w7) := HB6.out.trans (HB7.out.mono HB6.out.size)
      clear hon
      by_cases hle : f.zxid ≤ z
      · go_wp2_with (first | (refine wpList_store_mid rfl 41 (.tmp 12) (.tmp 30) rfl w6.heap.size 0 #[.int .i64 f.zxid, .int .u8 f.kind, .int .i64 f.session, .int .i64 f.turn, .int .i64 f.xid, .int .i64 f.time, .string (mkS f.path), .slice A1 f.data.length c1, .int .i64 f.owner, .int .i64 f.version, .int .i64 f.cversion, .int .i64 f.timeout, .int .i64 f.err, .int .i64 f.cver, .slice A2 f.mems.length c2, .slice A3 f.np c3] rfl rfl HTH.out infoDs HON.out ?_; rw [← HW7.out]) | fail)
        go_ret3
        exact HFIN.out its els Ad Cd Ae Ce t wr w7 HP.out HBW.out (scanF_low HU.out HD.out (by rw [← HZ.out]; exact hle))
      · have hR7 := HP.out.below HBW.out
        obtain ⟨g6, C6, w8, g7, C7, w9, r1, r2, r3, r4⟩ := rs_runs hR7 hl HU.out HD.out (by rw [← HZ.out]; exact hle) (HAT.out.keep (Chg.of_below HB7.out) (fun k _ hn => ⟨fun e => e, hn⟩))
        have HK2 : Hid _ := r1
        obtain ⟨t2, ht2⟩ : ∃ t2, t2 = t + (8 + x.length) := ⟨_, rfl⟩
        rw [← ht2] at r2 r3 r4
        have hte : (t : Int) + (8 + (x.length : Int)) = (t2 : Int) := by omega
        have HTE : Hid ((t : Int) + (8 + (x.length : Int)) = (t2 : Int)) := hte
        have HT2 : Hid (t2 = t + (8 + x.length)) := ht2
        have HK3 : Hid _ := r2
        have HN : Hid (Rs l w _ _ _ _ _ _ t2 w9) := r3
        have hrg := range16 H7.out
        have HRG : Hid _ := hrg
        have hlt2 : t < t2 := by omega
        clear hR7 r1 r2 r3 hte ht2 hrg
        go_wp2_with (first
          | (refine wpList_store_mid rfl 41 (.tmp 12) (.tmp 30) rfl w6.heap.size 0 #[.int .i64 f.zxid, .int .u8 f.kind, .int .i64 f.session, .int .i64 f.turn, .int .i64 f.xid, .int .i64 f.time, .string (mkS f.path), .slice A1 f.data.length c1, .int .i64 f.owner, .int .i64 f.version, .int .i64 f.cversion, .int .i64 f.timeout, .int .i64 f.err, .int .i64 f.cver, .slice A2 f.mems.length c2, .slice A3 f.np c3] rfl rfl HTH.out infoDs HON.out ?_; rw [← HW7.out])
          | (refine wpList_load_mid rfl 41 (.tmp 12) rfl w6.heap.size 0 rfl [.int .i64 f.zxid, .int .u8 f.kind, .int .i64 f.session, .int .i64 f.turn, .int .i64 f.xid, .int .i64 f.time, .string (mkS f.path), .slice A1 f.data.length c1, .int .i64 f.owner, .int .i64 f.version, .int .i64 f.cversion, .int .i64 f.timeout, .int .i64 f.err, .int .i64 f.cver, .slice A2 f.mems.length c2, .slice A3 f.np c3] _ HRG.out Tryz.underlying41 rfl infoDs ?_)
          | (at_builtin; refine wpList_run_append rfl (.tmp 48) (.tmp 50) 24 rfl rfl rfl HK2.out ?_; rw [HTE.out])
          | (at_builtin; refine wpList_run_append rfl (.tmp 52) (.tmp 54) 25 rfl rfl rfl HK3.out ?_)
          | fail)
        go_roundg (l.length - t2)
        case measure => omega
        case rel => exact ⟨its ++ [(f, ps)], els ++ [⟨(f, ps), A1, c1, A2, c2, A3, c3⟩], _, _, _, _, t2, rfl, by rw [List.length_append]; rfl, by rw [List.length_append]; rfl, rfl, by rw [lastZ_app], HN.out⟩
set_option maxRecDepth 100000 in
set_option maxHeartbeats 8000000 in
theorem scans_any {w : World} {x : Value} {l : List UInt8} (hx : Bs w x l) (hL : PA.Laid w) :
    Calls Tryz.prog 3 #[x] w fun e w' => e = .returned (.bool true) ∧ Below w.heap.size w w' := by
  have HL : Hid (PA.Laid w) := hL
  have HX : Hid (Bs w x l) := hx
  obtain ⟨A, C, rfl⟩ := bs_form hx
  clear hx hL
  by_cases hbig : (60000 : Int) < (l.length : Int)
  · have haw := awake_seg w HL.out
    go_enter Tryz.func3, Tryz.ntmps3
    go_wp2_with fail
    refine haw.mono ?_
    rintro e w1 ⟨rfl, hB1⟩
    have HB1 : Hid (Below w.heap.size w w1) := hB1
    clear haw hB1
    go_wp2
    go_ret
    exact ⟨rfl, HB1.out⟩
  · have hsc := scan_any HX.out (by omega) HL.out
    have HOK : Hid (∀ p ∈ scanF l 0, okIt p) := by obtain ⟨r, h1, h2, h3⟩ := scan_spec l.length l 0 (Nat.le_refl _); exact h2
    have hn0 := scan_len l
    have HIL : Hid (8 * (scanF l 0).length ≤ (catI (scanF l 0)).length) := catI_ge _
    have hrs : ∀ W, Below w.heap.size w W → _ := fun W hW => rscan_any (Bs.below' HX.out hW) (by omega) (HL.out.below hW)
    generalize scanF l 0 = its at hsc HOK hn0 HIL hrs
    obtain ⟨N, hN⟩ : ∃ N, N = (catI its).length := ⟨_, rfl⟩
    obtain ⟨m, hm⟩ : ∃ m, m = its.length := ⟨_, rfl⟩
    have hml : m ≤ 60000 := by have := HIL.out; omega
    have Hm : Hid (m = its.length) := hm
    rw [← hN, ← hm] at hsc
    have HRS : Hid _ := hrs
    have HNN : Hid (N = (catI its).length) := hN
    clear hN hm hn0 hrs
    go_enter Tryz.func3, Tryz.ntmps3
    go_wp2_with fail
    refine hsc.mono ?_
    rintro e w2 ⟨els, vd, ve, rfl, hel, hrd, hre, hdv, hB2⟩
    obtain ⟨Ad, Cd, rfl⟩ := owns_form' hrd
    obtain ⟨Ae, Ce, rfl⟩ := owns_form' hre
    have HB2 : Hid (Below w.heap.size w w2) := hB2
    have HEL : Hid (els.map El2.p = its) := hel
    have HRD : Hid _ := hrd
    have HRE : Hid _ := hre
    have HDV : Hid (∀ e ∈ els, DV w2 e) := hdv
    have hr2 := HRS.out w2 hB2
    rw [← HNN.out, ← Hm.out] at hr2
    clear hsc hel hrd hre hdv hB2 HRS
    go_wp2_with fail
    refine hr2.mono ?_
    rintro e w3 ⟨els', vd', ve', rfl, hel', hrd', hre', hdv', hB3⟩
    obtain ⟨Ad', Cd', rfl⟩ := owns_form' hrd'
    obtain ⟨Ae', Ce', rfl⟩ := owns_form' hre'
    have HB3 : Hid (Below w.heap.size w w3) := HB2.out.trans (hB3.mono HB2.out.size)
    have HRD3 : Hid _ := owns_keep HRD.out (Chg.of_below hB3) (fun _ _ e => e)
    have HRE3 : Hid _ := owns_keep HRE.out (Chg.of_below hB3) (fun _ _ e => e)
    have hsd := sameEls HRD3.out hrd' (by have := congrArg List.length HEL.out; rw [List.length_map] at this; rw [this, Hm.out]) (HEL.out.trans hel'.symm) (fun e he => (HDV.out e he).grow hB3) hdv' (fun e he => HOK.out _ (by rw [← HEL.out]; exact List.mem_map_of_mem he)) (by omega)
    have HSI : Hid (∀ X, Below w3.heap.size w3 X → Calls Tryz.prog 8 #[.slice Ae m Ce, .slice Ae' m Ce'] X fun e w' => e = .returned (.bool true) ∧ Below X.heap.size X w') := fun X hX => sameI_any (owns_keep HRE3.out (Chg.of_below hX) (fun _ _ e => e)) (owns_keep hre' (Chg.of_below hX) (fun _ _ e => e)) (by omega)
    have hnn : ((N : Int) == (N : Int)) = true := by simp
    clear hr2 hel' hrd' hre' hdv' hB3
    go_wp2_with fail
    refine hsd.mono ?_
    rintro e w4 ⟨rfl, hB4⟩
    have HB4 : Hid (Below w.heap.size w w4) := HB3.out.trans (hB4.mono HB3.out.size)
    have hsi := HSI.out w4 hB4
    clear hsd hB4 HSI
    go_wp2_with fail
    refine hsi.mono ?_
    rintro e w5 ⟨rfl, hB5⟩
    have HB5 : Hid (Below w.heap.size w w5) := HB4.out.trans (hB5.mono HB4.out.size)
    have haw := awake_seg w5 (HL.out.below HB5.out)
    clear hsi hB5
    go_wp2_with fail
    refine haw.mono ?_
    rintro e w6 ⟨rfl, hB6⟩
    have HB6 : Hid (Below w.heap.size w w6) := HB5.out.trans (hB6.mono HB5.out.size)
    clear haw hB6
    go_wp2
    go_ret
    exact ⟨rfl, HB6.out⟩
end Go.Proofs.YtaeoafedfgbcaaaGreatDoor.DD
