/- The walks of putParts, and of PutAsk. -/
import Derived.Test.YtmojplgoohnmdaaDoorAkU
namespace Go.Proofs.YtmojplgoohnmdaaDoor.AK
set_option linter.unusedVariables false
open Go.RowKit
set_option linter.unusedVariables false

theorem part_kind {p : Qf} (hk : 0 ≤ p.kind) (h : partQ p = true) : p.kind ≠ 11 := by
  intro e
  have h12 := (part_of h).1
  rw [e] at h12
  exact absurd h12 (by decide +kernel)
set_option maxRecDepth 100000 in
set_option maxHeartbeats 4000000 in
theorem putParts_any {w : World} {base g : Nat} {q : Option Nat} {l : List UInt8} (h : WrAt w base g q l) (hg : base ≤ g) (hl : l.length ≤ 5000) {v : Value} {ps : List Qf} (hP : QPrts w base v ps) (hn : ps.length ≤ 16) (hf : ∀ p ∈ ps, QFit p ∧ partQ p = true) (hL : QL w) (hLb : 0 < base) :
    Calls Tryd.prog 71 #[.pointer (some ⟨g, 0, none⟩), v] w fun e w' => e = .returned (.tuple #[]) ∧ ∃ q', WrAt w' base g q' (l ++ (numB ps.length ++ prtsQ ps)) ∧ Put g q w w' q' := by
  have HP : Hid (QPrts w base v ps) := hP
  have HF : Hid (∀ p ∈ ps, QFit p ∧ partQ p = true) := hf
  have HL : Hid (QL w) := hL
  have HW : Hid (WrAt w base g q l) := h
  obtain ⟨A, C, rfl⟩ := hP.form
  clear h hf hL hP
  generalize hm : ps.length = n at hn HP ⊢
  have HN : Hid (ps.length = n) := hm
  clear hm
  have hnl := numB_len (n := (n : Int)) ⟨by omega, by omega⟩
  have hwi := putInts_one HW.out hg (by omega) (n : Int) ⟨by omega, by omega⟩
  go_enter Tryd.func71, Tryd.ntmps71
  go_wp2_with fail
  refine hwi.mono ?_
  rintro e w1 ⟨rfl, q1, hW1, hP1⟩
  have HW1 : Hid (WrAt w1 base g q1 (l ++ numB n)) := hW1
  have HP1 : Hid (Put g q w w1 q1) := hP1
  have HB1 : Hid (Below base w w1) := put_below HW.out hg hP1
  have HNL : Hid ((l ++ numB (n : Int)).length ≤ 5010) := by show _ ≤ _; rw [List.length_append]; omega
  clear hwi hW1 hP1 hnl
  go_wp2_with fail
  go_loopw [13] (fun c wr => ∃ (k : Nat) (q' : Option Nat), k ≤ n ∧ c = .int .i64 k ∧ WrAt wr base g q' ((l ++ numB n) ++ prtsQ (ps.take k)) ∧ Put g q w wr q' ∧ Below base w wr) (fun c _ => n - (intOf c).toNat)
  case atStart => exact ⟨0, q1, by omega, rfl, by simpa [prtsQ] using HW1.out, HP1.out, HB1.out⟩
  case round =>
    obtain ⟨k, q', hk, rfl, hWr, hPr, hBr⟩ := hrel
    have HWr : Hid (WrAt wr base g q' ((l ++ numB n) ++ prtsQ (ps.take k))) := hWr
    have HPr : Hid (Put g q w wr q') := hPr
    have HBr : Hid (Below base w wr) := hBr
    clear hWr hPr hBr HW1 HP1 HB1
    by_cases hlt : k < n
    · have hkl : k < ps.length := by have := HN.out; omega
      obtain ⟨b, o, rfl, -, -, A1, c1, A2, c2, A3, c3, hcl, hdr⟩ := (HP.out.below HBr.out).at' k hkl
      have hff := HF.out _ (List.getElem_mem hkl)
      have hpl := prtsQ_len (ps.take k) (fun p hp => HF.out p (List.mem_of_mem_take hp))
      have hplk : (ps.take k).length = k := by rw [List.length_take]; omega
      have HLEN : Hid ((((l ++ numB (n : Int)) ++ prtsQ (ps.take k))).length ≤ 40000) := by
        show _ ≤ _
        have := HNL.out
        rw [List.length_append]
        rw [hplk] at hpl
        omega
      have HS : Hid (prtsQ (ps.take (k + 1)) = prtsQ (ps.take k) ++ (u8 (ps[k]'hkl).kind :: bodyQ (ps[k]'hkl))) := prts_snoc ps hkl
      have hLr : QL wr := HL.out.chg (S := fun j => base ≤ j) ⟨HBr.out.os, HBr.out.tape, HBr.out.output, HBr.out.size, fun j _ hj => HBr.out.block j (by omega)⟩ (by omega)
      clear hpl hplk
      generalize (ps[k]'hkl) = f at hcl hdr hff HS
      have HFF : Hid (QFit f ∧ partQ f = true) := hff
      have hfk := hff.1.kind
      obtain ⟨z0, z1, z2, z3, z4, z5, z6, z7, z8, z9, z10, z11, z12, z13, z14⟩ := hcl
      obtain ⟨w1', hw1⟩ : ∃ X, X = wr.alloc (.cells #[.int .u8 f.kind, .int .i64 f.xid, .int .i64 f.session, .int .i64 f.turn, .string (mkS f.path), .slice A1 f.data.length c1, .int .i64 f.flags, .int .i64 f.version, .bool f.watch, .int .u8 f.sort, .int .i64 f.last, .int .i64 f.timeout, .int .i64 f.frm, .slice A2 f.mems.length c2, .slice A3 f.np c3] 29) := ⟨_, rfl⟩
      have hB1 : Below wr.heap.size wr w1' := by rw [hw1]; exact (Below.refl _ _).alloc (Nat.le_refl _) _
      have hbs : base ≤ wr.heap.size := by obtain ⟨v, _, _, _, _, hb⟩ := HWr.out; exact hb
      have HO1 : Hid (Own w1' wr.heap.size (.cells #[.int .u8 f.kind, .int .i64 f.xid, .int .i64 f.session, .int .i64 f.turn, .string (mkS f.path), .slice A1 f.data.length c1, .int .i64 f.flags, .int .i64 f.version, .bool f.watch, .int .u8 f.sort, .int .i64 f.last, .int .i64 f.timeout, .int .i64 f.frm, .slice A2 f.mems.length c2, .slice A3 f.np c3] 29 (0, 0)) g q') := ⟨by rw [hw1]; exact heap_alloc_new wr _, by have := RowAt.lt HWr.out; omega, fun e => by have := (RowAt.qlt HWr.out _ e).2; omega⟩
      have HW2 : Hid (WrAt w1' base g q' ((l ++ numB n) ++ prtsQ (ps.take k))) := WrAt.below HWr.out hB1
      have HP2 : Hid (Put g q w w1' q') := HPr.out.trans (Put.below hB1)
      have HL2 : Hid (QL w1') := hLr.below hB1
      have HD2 : Hid (QRest w1' base f A1 c1 A2 c2) := hdr.below (hB1.mono hbs)
      have hwb := wByte_any HW2.out f.kind (u8 f.kind) (u8_back hfk).symm (by have := HLEN.out; omega)
      rw [hw1] at hwb
      clear hB1 hff hdr hLr HWr HPr HBr
      go_wp2_with fail
      refine hwb.mono ?_
      rintro e w3 ⟨rfl, q3, hW3, hP3⟩
      rw [← hw1] at hP3
      have HW3 : Hid (WrAt w3 base g q3 (((l ++ numB n) ++ prtsQ (ps.take k)) ++ [u8 f.kind])) := hW3
      have HP3 : Hid (Put g q w w3 q3) := HP2.out.trans hP3
      have HO3 : Hid (Own w3 wr.heap.size (.cells #[.int .u8 f.kind, .int .i64 f.xid, .int .i64 f.session, .int .i64 f.turn, .string (mkS f.path), .slice A1 f.data.length c1, .int .i64 f.flags, .int .i64 f.version, .bool f.watch, .int .u8 f.sort, .int .i64 f.last, .int .i64 f.timeout, .int .i64 f.frm, .slice A2 f.mems.length c2, .slice A3 f.np c3] 29 (0, 0)) g q3) := HO1.out.put hP3
      have hB3 := put_below HW2.out hg hP3
      have hL3 : QL w3 := HL2.out.chg (S := fun j => base ≤ j) ⟨hB3.os, hB3.tape, hB3.output, hB3.size, fun j _ hj => hB3.block j (by omega)⟩ (by omega)
      have hpf := putFields_leaf hW3 hg (by have := HLEN.out; simp only [List.length_append, List.length_singleton] at *; omega) f HFF.out.1 (fit_of (part_of HFF.out.2).2.2.2.2).2 (part_kind HFF.out.1.kind.1 HFF.out.2) A1 A2 A3 c1 c2 c3 hL3 (HD2.out.below hB3)
      clear hwb hW3 hP3 hB3 hL3 z0 z1 z2 z3 z4 z5 z6 z7 z8 z9 z10 z11 z12 z13 z14 HW2 HP2 HO1 HL2 HD2 hw1
      obtain ⟨z0, z1, z2, z3, z4, z5, z6, z7, z8, z9, z10, z11, z12, z13, z14⟩ := cells15 HO3.out.at'
      generalize wr.heap.size = pp at HO3 z0 z1 z2 z3 z4 z5 z6 z7 z8 z9 z10 z11 z12 z13 z14 ⊢
      go_wp2_with fail
      refine hpf.mono ?_
      rintro e w4 ⟨rfl, q4, hW4, hP4⟩
      have HW4 : Hid (WrAt w4 base g q4 ((l ++ numB n) ++ prtsQ (ps.take (k + 1)))) := by
        show WrAt _ _ _ _ _
        rw [HS.out]
        simpa using hW4
      have HB4 : Hid (Below base w w4) := (put_below HW.out hg HP3.out).trans (put_below HW3.out hg hP4)
      have HP4 : Hid (Put g q w w4 q4) := HP3.out.trans hP4
      clear hpf hW4 hP4 z0 z1 z2 z3 z4 z5 z6 z7 z8 z9 z10 z11 z12 z13 z14 HW3 HP3 HO3
      go_wp2
      exact ⟨⟨k + 1, q4, by omega, by go_num, HW4.out, HP4.out, HB4.out⟩, by simp [intOf]; omega⟩
    · have hkn : k = n := by omega
      have HE : Hid (((l ++ numB (n : Int)) ++ prtsQ (ps.take k)) = l ++ (numB (n : Int) ++ prtsQ ps)) := by
        show _ = _
        rw [hkn, ← HN.out, List.take_length, List.append_assoc]
      rw [HE.out] at HWr
      clear HE
      go_wp2
      go_end0
      exact ⟨rfl, q', HWr.out, HPr.out⟩
set_option maxRecDepth 100000 in
set_option maxHeartbeats 4000000 in
theorem putFMulti {w : World} {base g : Nat} {q : Option Nat} {l : List UInt8} (h : WrAt w base g q l) (hg : base ≤ g) (hl : l.length ≤ 1000) (f : Qf) (hk : f.kind = 11) (ps : List Qf) (A1 A2 A3 : Option Addr) (c1 c2 c3 : Nat) (hP : QPrts w base (.slice A3 f.np c3) ps) (hn : ps.length ≤ 16) (hf : ∀ p ∈ ps, QFit p ∧ partQ p = true) (hL : QL w) (hLb : 0 < base) :
    Calls Tryd.prog 29 #[.pointer (some ⟨g, 0, none⟩), .agg #[.int .u8 f.kind, .int .i64 f.xid, .int .i64 f.session, .int .i64 f.turn, .string (mkS f.path), .slice A1 f.data.length c1, .int .i64 f.flags, .int .i64 f.version, .bool f.watch, .int .u8 f.sort, .int .i64 f.last, .int .i64 f.timeout, .int .i64 f.frm, .slice A2 f.mems.length c2, .slice A3 f.np c3]] w fun e w' => e = .returned (.tuple #[]) ∧ ∃ q', WrAt w' base g q' (l ++ (numB ps.length ++ prtsQ ps)) ∧ Put g q w w' q' := by
  have hgl : g < w.heap.size := RowAt.lt h
  have hql := RowAt.qlt h
  obtain ⟨w1, hw1⟩ : ∃ X, X = w.alloc (.cells #[.int .u8 f.kind, .int .i64 f.xid, .int .i64 f.session, .int .i64 f.turn, .string (mkS f.path), .slice A1 f.data.length c1, .int .i64 f.flags, .int .i64 f.version, .bool f.watch, .int .u8 f.sort, .int .i64 f.last, .int .i64 f.timeout, .int .i64 f.frm, .slice A2 f.mems.length c2, .slice A3 f.np c3] 29) := ⟨_, rfl⟩
  have hB1 : Below w.heap.size w w1 := by rw [hw1]; exact (Below.refl _ _).alloc (Nat.le_refl _) _
  have hbB : base ≤ w.heap.size := by obtain ⟨v, _, _, _, _, hb⟩ := h; exact hb
  have HO1 : Hid (Own w1 w.heap.size (.cells #[.int .u8 f.kind, .int .i64 f.xid, .int .i64 f.session, .int .i64 f.turn, .string (mkS f.path), .slice A1 f.data.length c1, .int .i64 f.flags, .int .i64 f.version, .bool f.watch, .int .u8 f.sort, .int .i64 f.last, .int .i64 f.timeout, .int .i64 f.frm, .slice A2 f.mems.length c2, .slice A3 f.np c3] 29 (0, 0)) g q) := ⟨by rw [hw1]; exact heap_alloc_new w _, by omega, fun e => by have := (hql _ e).2; omega⟩
  have HP1 : Hid (Put g q w w1 q) := by rw [hw1]; exact Put.alloc _ _ _ _
  have hpp := putParts_any (WrAt.below h hB1) hg (by omega) (hP.below (hB1.mono hbB)) hn hf (hL.below hB1) hLb
  have ho := of_any f.kind (by omega) w1 (hL.below hB1)
  have v0 := have_b (kQ f.kind.toNat) 1 false (by rw [hk]; decide +kernel)
  have v1 := have_b (kQ f.kind.toNat) 2 false (by rw [hk]; decide +kernel)
  have v2 := have_b (kQ f.kind.toNat) 4 false (by rw [hk]; decide +kernel)
  have v3 := have_b (kQ f.kind.toNat) 8 false (by rw [hk]; decide +kernel)
  have v4 := have_b (kQ f.kind.toNat) 16 false (by rw [hk]; decide +kernel)
  have v5 := have_b (kQ f.kind.toNat) 32 false (by rw [hk]; decide +kernel)
  have v6 := have_b (kQ f.kind.toNat) 64 false (by rw [hk]; decide +kernel)
  have v7 := have_b (kQ f.kind.toNat) 128 false (by rw [hk]; decide +kernel)
  have v8 := have_b (kQ f.kind.toNat) 256 false (by rw [hk]; decide +kernel)
  have v9 := have_b (kQ f.kind.toNat) 512 false (by rw [hk]; decide +kernel)
  have v10 := have_b (kQ f.kind.toNat) 1024 true (by rw [hk]; decide +kernel)
  generalize kQ f.kind.toNat = T at ho v0 v1 v2 v3 v4 v5 v6 v7 v8 v9 v10
  rw [hw1] at ho
  clear h hgl hql hl hL hB1 hbB hP hf hk
  go_enter Tryd.func29, Tryd.ntmps29
  go_wp2_with fail
  refine ho.mono ?_
  rintro e w' ⟨rfl, hw'⟩
  rw [← hw1] at hw'
  subst hw'
  clear ho hw1
  obtain ⟨z0, z1, z2, z3, z4, z5, z6, z7, z8, z9, z10, z11, z12, z13, z14⟩ := cells15 HO1.out.at'
  go_wp2_with fail
  refine (v0 _).mono ?_
  rintro e wv ⟨rfl, hwv⟩
  subst hwv
  clear v0
  go_wp2_with fail
  refine (v1 _).mono ?_
  rintro e wv ⟨rfl, hwv⟩
  subst hwv
  clear v1
  go_wp2_with fail
  refine (v2 _).mono ?_
  rintro e wv ⟨rfl, hwv⟩
  subst hwv
  clear v2
  go_wp2_with fail
  refine (v3 _).mono ?_
  rintro e wv ⟨rfl, hwv⟩
  subst hwv
  clear v3
  go_wp2_with fail
  refine (v4 _).mono ?_
  rintro e wv ⟨rfl, hwv⟩
  subst hwv
  clear v4
  go_wp2_with fail
  refine (v5 _).mono ?_
  rintro e wv ⟨rfl, hwv⟩
  subst hwv
  clear v5
  go_wp2_with fail
  refine (v6 _).mono ?_
  rintro e wv ⟨rfl, hwv⟩
  subst hwv
  clear v6
  go_wp2_with fail
  refine (v7 _).mono ?_
  rintro e wv ⟨rfl, hwv⟩
  subst hwv
  clear v7
  go_wp2_with fail
  refine (v8 _).mono ?_
  rintro e wv ⟨rfl, hwv⟩
  subst hwv
  clear v8
  go_wp2_with fail
  refine (v9 _).mono ?_
  rintro e wv ⟨rfl, hwv⟩
  subst hwv
  clear v9
  go_wp2_with fail
  refine (v10 _).mono ?_
  rintro e wv ⟨rfl, hwv⟩
  subst hwv
  clear v10
  go_wp2_with fail
  refine hpp.mono ?_
  rintro e w2 ⟨rfl, q2, hW, hP⟩
  have HW2 : Hid (WrAt w2 base g q2 (l ++ (numB ps.length ++ prtsQ ps))) := hW
  have HP2 : Hid (Put g q w w2 q2) := HP1.out.trans hP
  clear hpp hW hP z0 z1 z2 z3 z4 z5 z6 z7 z8 z9 z10 z11 z12 z13 z14
  go_wp2
  go_end0
  exact ⟨rfl, q2, HW2.out, HP2.out⟩
theorem putFields_any {w : World} {base g : Nat} {q : Option Nat} {l : List UInt8} (h : WrAt w base g q l) (hg : base ≤ g) (hl : l.length ≤ 1000) (f : Qf) (ps : List Qf) (hf : AskFit f ps) (hr : rightQ f ps = true) (A1 A2 A3 : Option Addr) (c1 c2 c3 : Nat) (hL : QL w) (hLb : 0 < base) (hd : QRest w base f A1 c1 A2 c2) (hP : QPrts w base (.slice A3 f.np c3) ps) :
    Calls Tryd.prog 29 #[.pointer (some ⟨g, 0, none⟩), .agg #[.int .u8 f.kind, .int .i64 f.xid, .int .i64 f.session, .int .i64 f.turn, .string (mkS f.path), .slice A1 f.data.length c1, .int .i64 f.flags, .int .i64 f.version, .bool f.watch, .int .u8 f.sort, .int .i64 f.last, .int .i64 f.timeout, .int .i64 f.frm, .slice A2 f.mems.length c2, .slice A3 f.np c3]] w fun e w' => e = .returned (.tuple #[]) ∧ ∃ q', WrAt w' base g q' (l ++ (bodyQ f ++ tailQ f ps)) ∧ Put g q w w' q' := by
  obtain ⟨h11, _, _, _, hfit, hps⟩ := right_of hr
  have hfw := (fit_of hfit).2
  by_cases e : f.kind = 11
  · have hb : bodyQ f = [] := by
      have h0 : has 11 0 = false := by decide +kernel
      have h1 : has 11 1 = false := by decide +kernel
      have h2 : has 11 2 = false := by decide +kernel
      have h3 : has 11 3 = false := by decide +kernel
      have h4 : has 11 4 = false := by decide +kernel
      have h5 : has 11 5 = false := by decide +kernel
      have h6 : has 11 6 = false := by decide +kernel
      have h7 : has 11 7 = false := by decide +kernel
      have h8 : has 11 8 = false := by decide +kernel
      have h9 : has 11 9 = false := by decide +kernel
      unfold bodyQ; rw [e]; simp [oB, h0, h1, h2, h3, h4, h5, h6, h7, h8, h9]
    have ht : tailQ f ps = numB ps.length ++ prtsQ ps := by
      have h10 : has 11 10 = true := by decide +kernel
      unfold tailQ oB; rw [e, h10, if_pos rfl]
    rw [hb, ht, List.nil_append]
    exact putFMulti h hg hl f e ps A1 A2 A3 c1 c2 c3 hP (by have := hf.len; have := hfw.np; omega) (fun p hp => ⟨hf.all p hp, hps p hp⟩) hL hLb
  · have h10 : has f.kind 10 = false := by
      by_cases hbig : 15 ≤ f.kind
      · exact has_big hbig 10
      · have key : ∀ k : Fin 15, k.val ≠ 11 → has (k.val : Int) 10 = false := by decide +kernel
        have := key ⟨f.kind.toNat, by have := hf.top.kind; omega⟩ (by dsimp only; have := hf.top.kind; omega)
        dsimp only at this
        rwa [Int.toNat_of_nonneg hf.top.kind.1] at this
    have ht : tailQ f ps = [] := by unfold tailQ oB; rw [h10]; rfl
    rw [ht, List.append_nil]
    exact putFields_leaf h hg (by omega) f hf.top hfw e A1 A2 A3 c1 c2 c3 hL hd
end Go.Proofs.YtmojplgoohnmdaaDoor.AK
