/- The walks of what changes a disk: Sync, Cut, Remove, Rename, Append. -/
import Derived.Test.YtapipnbmljdmbaaGreatDkD
import Derived.Deep.RegionWith
namespace Go.Proofs.YtapipnbmljdmbaaGreat
open Go.RowKit Go.MapKept

/- A file put at the name of another one, in the words of Nxt. -/
theorem nxt_put {T S : Nat → Prop} {w w1 w2 : World} {base d m : Nat} {room : Int} {L : List Fv} (hb : base ≤ w.heap.size) (h : Dk w base d m room L) (hx : ∀ k, Sx d m L k → S k) (hS : ∀ k, S k → base ≤ k ∧ k < w.heap.size) (p : Fv) (c1 : Chg T w w1)
    (hT : ∀ k, k < w.heap.size → T k → S k ∧ k ≠ d ∧ k ≠ m ∧ ∀ q ∈ L, q.1.nm ≠ p.1.nm → blk q.2 ≠ some k)
    (hrow : w1.ownsRow base 5 1 p.2 p.1.b.length (bv p.1.b)) (hloc : ∀ k, blk p.2 = some k → (S k ∧ ∀ q ∈ L, q.1.nm ≠ p.1.nm → blk q.2 ≠ some k) ∨ w.heap.size ≤ k)
    (hm : MapIs w2 m (putL p L)) (c2 : Chg (fun k => k = m) w1 w2) (hf : p.1.sy ≤ p.1.b.length ∧ p.1.b.length ≤ 4194304) (hu : (used (putF p.1 (L.map Prod.fst)) : Int) ≤ room) :
    Nxt base d room S w w2 (putF p.1 (L.map Prod.fst)) := by
  refine Nxt.of hb hS ?_ (put_F p L) (h.put p c1 (fun k hk ht => (hT k hk ht).2) hrow (fun k hk => (hloc k hk).imp (fun e => e.2) id) hm c2 hf hu) ?_
  · refine (c1.weak (fun k hk ht => (hT k hk ht).1)).trans' c2 ?_
    intro k _ e; subst e; exact hx k (.inr (.inl rfl))
  · rintro k (e | e | ⟨q, hq, hk⟩)
    · exact .inl (hx k (.inl e))
    · exact .inl (hx k (.inr (.inl e)))
    · rcases put_mem hq with rfl | hq
      · exact (hloc k hk).imp (fun e => e.1) id
      · exact .inl (hx k (.inr (.inr ⟨q, hq, hk⟩)))

set_option maxRecDepth 100000 in
theorem sync_some {w : World} {base d : Nat} {room : Int} {F : List Fi} {S : Nat → Prop} (hb : base ≤ w.heap.size) (h : Dsk w base d room F S) {k : List UInt8} {f : Fi} (hk : lookF k F = some f) :
    Calls Tryz.prog 17 #[.pointer (some ⟨d, 0, none⟩), .string (mkS k)] w fun e w' => e = .returned (.int .i64 0) ∧ Nxt base d room S w w' (putF ⟨f.nm, f.b, f.b.length⟩ F) := by
  obtain ⟨m, L, rfl, hD, hx, hS⟩ := h
  obtain ⟨A, C, hlk, ho, hl, hsy, hnm⟩ := hD.at hk
  have HO : Hid (w.ownsRow base 5 1 (.slice A f.b.length C) f.b.length (bv f.b)) := ho
  have HK : Hid (look k L = some (f, .slice A f.b.length C)) := hlk
  have HF : Hid (lookF k (L.map Prod.fst) = some f) := hk
  subst hnm
  clear hk hlk ho
  go_enter Tryz.func17, Tryz.ntmps17
  go_wp2_with fail
  refine (find_some hD f.nm HK.out).mono ?_
  rintro e w1 ⟨rfl, hB⟩
  have hD2 := ((hD.below hB).alloc (.cells #[.slice A f.b.length C, .int .i64 (f.b.length : Int)] 49)).keep (Chg.drew Non _) (fun _ _ => id)
  have hc0 := cell_at ((hD.below hB).alloc (.cells #[.slice A f.b.length C, .int .i64 (f.b.length : Int)] 49)).cell 0
  simp at hc0
  obtain ⟨w3, hrun, hm3, hc3, hs3⟩ := hD2.map.update (⟨f.nm, f.b, f.b.length⟩, .slice A f.b.length C)
  simp only [valOf] at hrun
  have HB : Hid (Below w.heap.size w (w1.alloc (.cells #[.slice A f.b.length C, .int .i64 (f.b.length : Int)] 49)).drew) := (hB.alloc hB.size _).drew
  have HM : Hid (MapIs w3 m (putL (⟨f.nm, f.b, f.b.length⟩, .slice A f.b.length C) L)) := hm3
  have HC : Hid (Chg (fun k => k = m) (w1.alloc (.cells #[.slice A f.b.length C, .int .i64 (f.b.length : Int)] 49)).drew w3) := hc3
  clear hm3 hc3 hs3 hD2
  go_wp2_with fail
  go_region
  all_goals
    go_wp2_with fail
    go_ret
    refine ⟨rfl, nxt_put hb hD hx hS (⟨f.nm, f.b, f.b.length⟩, .slice A f.b.length C) (Chg.of_below HB.out) (fun _ _ e => e.elim) ?_ ?_ HM.out HC.out ⟨Nat.le_refl _, hl⟩ ?_⟩
    · exact owns_keep HO.out (Chg.of_below HB.out) (fun _ _ => id)
    · intro k hk
      exact .inl ⟨hx k (.inr (.inr ⟨_, (look_some HK.out).1, hk⟩)), fun q hq hne => look_ne hD.apart HK.out hq hne hk⟩
    · show ((used (putF ⟨f.nm, f.b, f.b.length⟩ (L.map Prod.fst)) : Nat) : Int) ≤ room
      have h1 := used_put ⟨f.nm, f.b, f.b.length⟩ (L.map Prod.fst)
      have h2 := get_look HK.out
      simp only [h2] at h1
      have := hD.usd
      omega

end Go.Proofs.YtapipnbmljdmbaaGreat
