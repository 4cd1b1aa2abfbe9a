/- What this text holds: the addresses of a value. -/
import Derived.Test.YtemgpghjolpneaaGreatDoorM12
namespace Go.Proofs.YtemgpghjolpneaaGreatDoor
open Go.RowKit
set_option linter.unusedVariables false
set_option linter.unusedSimpArgs false

def adR (a : Ad) : List Bs := [a.1, a.2.1, a.2.2]
theorem RO.fr {w w' : World} {B B' T k b : Nat} {v : Value} {L : List (List Bs)} {l d : Bs} (h : RO w B T k v L) (hr : RAt w B' b l d) (h5 : T ≠ 5) (h75 : 64 ≠ T) (f : Fr B' b w w') : RO w' B T k v L := by
  obtain ⟨v0, hc, _⟩ := hr.at_
  have hne := h.ne h75 hc
  refine ⟨h.1, ownsRow_block h.2 (fun g hg => ?_)⟩
  rcases h.2.2 with ⟨h1, _⟩ | ⟨g', cap, cur, h1, _, h2, _⟩
  · subst h1; simp [Value.ownBlock] at hg
  · subst h1
    simp only [Value.ownBlock, Option.some.injEq] at hg
    subst hg
    rw [h2]
    refine f.kept g' _ h2 ?_ (fun c fz e => ?_)
    · intro e
      exact hne (by simp [Value.ownBlock, Option.some.inj e])
    · simp at e
      exact h5 e.2.1
/-- What appends to a list leaves the reader as it was. -/
theorem app_keeps {w w' : World} {B B' b n : Nat} {q d : Bs} {v v' : Value} {l : List (List Bs)} {r : List Bs} (h : RO w B 42 3 v l) (hr : RAt w B' b q d) (hrun : (Builtin.append_ #[25, 25] 25 #[v, .slice (some ⟨n, 0, none⟩) 1 1]).run Tryz.prog (w.alloc (.cells (r.map fun p => Value.string (str p)).toArray 42)) = .ok v' w') (hk : r.length = 3) (hl : l.length ≤ 10000000) (hB : B ≤ w.heap.size) (hn : w.heap.size = n := by simp) : RAt w' B' b q d := by
  subst hn
  have hb : Below w.heap.size w (w.alloc (.cells (r.map fun p => Value.string (str p)).toArray 42)) := (Below.refl _ _).alloc (Nat.le_refl _) _
  have hra := ra_one w r 42
  rw [hk] at hra
  have ho2 := h.later hb
  obtain ⟨v2, w2, h1, h2, h3, h4⟩ := ro_more Tryz.underlying25 Tryz.info42 rfl (by omega) (by omega) ho2 (Nat.le_trans hB hb.size) hra hl (by simp) (by simp)
  rw [hrun] at h1
  simp only [Result.ok.injEq] at h1
  obtain ⟨_, rfl⟩ := h1
  have hr2 := hr.later hb
  obtain ⟨u, hc, ho⟩ := hr2.at_
  have hne := ho2.ne (by decide) hc
  refine ⟨⟨u, (h4.block b (lt_of_some hc) (fun e => hne e.symm)).trans hc, ownsRow_block ho (fun k hk => h4.block k (ho.lt k hk).2 (fun e => ?_))⟩, hr.base⟩
  -- the bytes' row is no row of addresses
  rcases ho.2 with ⟨e1, _⟩ | ⟨g, cap, cur, e1, _, e2, _⟩
  · subst e1; simp [Value.ownBlock] at hk
  · subst e1
    simp only [Value.ownBlock, Option.some.injEq] at hk
    subst hk
    exact ho2.ne (by decide) e2 e.symm
theorem ads_no {q : Bs} (h : q ≠ []) (ha : adOf (pieP none [] q).1 (pieP none [] q).2.1 = noAd) : adsP q = adsP (pieP none [] q).2.2 := by rw [adsP_step q h, if_pos ha]; rfl
theorem ads_yes {q : Bs} (h : q ≠ []) (ha : adOf (pieP none [] q).1 (pieP none [] q).2.1 ≠ noAd) : adsP q = adOf (pieP none [] q).1 (pieP none [] q).2.1 :: adsP (pieP none [] q).2.2 := by rw [adsP_step q h, if_neg ha]; rfl
set_option maxRecDepth 100000 in
set_option maxHeartbeats 8000000 in
theorem addresses_any (s : Bs) (w : World) (hs : s.length ≤ 400000) :
    Calls Tryz.prog 15 #[.string (str s)] w fun e w' => (∃ v, e = .returned v ∧ RO w' w.heap.size 42 3 v ((adsP s).map adR)) ∧ Below w.heap.size w w' := by
  have H0 : Hid (RAt (w.alloc (.cells #[.string (str s), .slice none 0 0] 64)) w.heap.size w.heap.size s []) := ⟨⟨_, heap_alloc_new _ _, by simp [bu], .inl ⟨rfl, rfl⟩⟩, Nat.le_refl _⟩
  have HB0 : Hid (Below w.heap.size w (w.alloc (.cells #[.string (str s), .slice none 0 0] 64))) := (Below.refl _ _).alloc (Nat.le_refl _) _
  go_enter Tryz.func15, Tryz.ntmps15
  go_wp2_with fail
  go_loopw [3] (fun v wr => ∃ (q : Bs) (L : List Ad), RAt wr w.heap.size w.heap.size q [] ∧ RO wr w.heap.size 42 3 v (L.map adR) ∧ Below w.heap.size w wr ∧ L ++ adsP q = adsP s ∧ L.length + q.length ≤ s.length) (fun _ wr => leftN w.heap.size wr)
  case atStart => exact ⟨s, [], H0.out, RO.nil _ _ _ _, HB0.out, rfl, by simp⟩
  case round =>
    obtain ⟨q, L, hr, ho, hb, he, hn⟩ := hrel
    have HR := hid hr
    have HO := hid ho
    have HB := hid hb
    have HE := hid he
    have HM := hid hr.leftN
    clear hr ho hb he H0 HB0
    by_cases h0 : q = []
    · subst h0
      have HC := hid (more_no_any HR.out.left.1)
      go_wp2_with fail
      refine HC.out.mono ?_
      rintro e w1 ⟨rfl, rfl⟩
      go_wp2_with fail
      go_ret
      have e := HE.out
      rw [adsP_nil, List.append_nil] at e
      rw [← e]
      exact ⟨⟨_, rfl, HO.out⟩, HB.out⟩
    · have hlt := pieP_lt _ none [] q (Nat.le_refl _)
      have hpos : 0 < q.length := List.length_pos_iff.2 h0
      have HC : Hid (Calls Tryz.prog 24 #[.pointer (some ⟨w.heap.size, 0, none⟩)] wr fun e w' => e = .returned (.bool true) ∧ w' = wr) := by
        cases q with
        | nil => exact absurd rfl h0
        | cons c t => exact more_yes_any HR.out.left.1
      have HP := hid (piece_any HR.out (by omega))
      have HNo := hid (@ads_no q h0)
      have HYes := hid (@ads_yes q h0)
      unfold PieceIs at HP
      generalize adOf (pieP none [] q).1 (pieP none [] q).2.1 = ad at *
      generalize (pieP none [] q).2.2 = q' at *
      clear h0
      unfold adV at HP
      go_wp2_with fail
      refine HC.out.mono ?_
      rintro e w1 ⟨rfl, rfl⟩
      go_wp2_with fail
      refine HP.out.mono ?_
      rintro e w2 ⟨rfl, hr2, hf2⟩
      have HR2 := hid hr2
      have HO2 := hid (HO.out.fr HR.out (by decide) (by decide) hf2)
      have HB2 := hid (HB.out.trans hf2.below)
      clear hr2 hf2
      have hal : Below w2.heap.size w2 (w2.alloc (.cells #[.string (str ad.1), .string (str ad.2.1), .string (str ad.2.2)] 42)) := (Below.refl _ _).alloc (Nat.le_refl _) _
      have HRa := hid (HR2.out.later hal)
      have HOa := hid (HO2.out.later hal)
      have HBa := hid (HB2.out.trans (hal.mono HB2.out.size))
      clear hal
      by_cases a1 : ad.1 = []
      · by_cases a2 : ad.2.1 = []
        · by_cases a3 : ad.2.2 = []
          · skip
            have q1 : (str ad.1).toList = [] := (toL _).trans a1
            have q2 : (str ad.2.1).toList = [] := (toL _).trans a2
            have q3 : (str ad.2.2).toList = [] := (toL _).trans a3
            have HX := hid (HNo.out (by obtain ⟨x, y, z⟩ := ad; simp only at a1 a2 a3; subst a1 a2 a3; rfl))
            clear a1 a2 a3
            go_wp2_with fail
            go_roundw
            case rel => exact ⟨q', L, HRa.out, HOa.out, HBa.out, by rw [← HX.out]; exact HE.out, by omega⟩
            case measure => rw [HM.out, HRa.out.leftN]; omega
          · skip
            have q1 : (str ad.1).toList = [] := (toL _).trans a1
            have q2 : (str ad.2.1).toList = [] := (toL _).trans a2
            have q3 : ¬ (str ad.2.2).toList = [] := by rw [toL]; exact a3
            have HX := hid (HYes.out (by rintro rfl; simp [noAd] at a3))
            clear a1 a2 a3
            obtain ⟨v', w', hr', ho', hb'⟩ := ro_one Tryz.underlying25 Tryz.info42 rfl (by omega) (by omega) HOa.out HBa.out.size (by simp; omega) (adR ad) rfl (w2.heap.size + 1) (by simp)
            have HR' := hid hr'
            have HO' : Hid (RO w' w.heap.size 42 3 v' ((L ++ [ad]).map adR)) := by rw [Hid, List.map_append]; exact ho'
            have HB' := hid (HBa.out.trans hb')
            have HRR : Hid (RAt w' w.heap.size w.heap.size q' []) := app_keeps HOa.out HRa.out hr' rfl (by simp; omega) HBa.out.size
            clear hr' ho' hb'
            obtain ⟨a0, c0, hv0⟩ := HO2.out.sliceN (n := L.length) (by simp)
            obtain ⟨a5, c5, hv5⟩ := HO'.out.sliceN (n := L.length + 1) (by simp)
            subst hv0 hv5
            go_wp2_with (at_builtin; refine wpList_append_run rfl rfl HR'.out ?_)
            go_roundw
            case rel => exact ⟨q', L ++ [ad], HRR.out, HO'.out, HB'.out, by rw [List.append_assoc, List.singleton_append, ← HX.out]; exact HE.out, by simp; omega⟩
            case measure => rw [HM.out, HRR.out.leftN]; omega
        · skip
          have q1 : (str ad.1).toList = [] := (toL _).trans a1
          have q2 : ¬ (str ad.2.1).toList = [] := by rw [toL]; exact a2
          have HX := hid (HYes.out (by rintro rfl; simp [noAd] at a2))
          clear a1 a2
          obtain ⟨v', w', hr', ho', hb'⟩ := ro_one Tryz.underlying25 Tryz.info42 rfl (by omega) (by omega) HOa.out HBa.out.size (by simp; omega) (adR ad) rfl (w2.heap.size + 1) (by simp)
          have HR' := hid hr'
          have HO' : Hid (RO w' w.heap.size 42 3 v' ((L ++ [ad]).map adR)) := by rw [Hid, List.map_append]; exact ho'
          have HB' := hid (HBa.out.trans hb')
          have HRR : Hid (RAt w' w.heap.size w.heap.size q' []) := app_keeps HOa.out HRa.out hr' rfl (by simp; omega) HBa.out.size
          clear hr' ho' hb'
          obtain ⟨a0, c0, hv0⟩ := HO2.out.sliceN (n := L.length) (by simp)
          obtain ⟨a5, c5, hv5⟩ := HO'.out.sliceN (n := L.length + 1) (by simp)
          subst hv0 hv5
          go_wp2_with (at_builtin; refine wpList_append_run rfl rfl HR'.out ?_)
          go_roundw
          case rel => exact ⟨q', L ++ [ad], HRR.out, HO'.out, HB'.out, by rw [List.append_assoc, List.singleton_append, ← HX.out]; exact HE.out, by simp; omega⟩
          case measure => rw [HM.out, HRR.out.leftN]; omega
      · skip
        have q1 : ¬ (str ad.1).toList = [] := by rw [toL]; exact a1
        have HX := hid (HYes.out (by rintro rfl; simp [noAd] at a1))
        clear a1
        obtain ⟨v', w', hr', ho', hb'⟩ := ro_one Tryz.underlying25 Tryz.info42 rfl (by omega) (by omega) HOa.out HBa.out.size (by simp; omega) (adR ad) rfl (w2.heap.size + 1) (by simp)
        have HR' := hid hr'
        have HO' : Hid (RO w' w.heap.size 42 3 v' ((L ++ [ad]).map adR)) := by rw [Hid, List.map_append]; exact ho'
        have HB' := hid (HBa.out.trans hb')
        have HRR : Hid (RAt w' w.heap.size w.heap.size q' []) := app_keeps HOa.out HRa.out hr' rfl (by simp; omega) HBa.out.size
        clear hr' ho' hb'
        obtain ⟨a0, c0, hv0⟩ := HO2.out.sliceN (n := L.length) (by simp)
        obtain ⟨a5, c5, hv5⟩ := HO'.out.sliceN (n := L.length + 1) (by simp)
        subst hv0 hv5
        go_wp2_with (at_builtin; refine wpList_append_run rfl rfl HR'.out ?_)
        go_roundw
        case rel => exact ⟨q', L ++ [ad], HRR.out, HO'.out, HB'.out, by rw [List.append_assoc, List.singleton_append, ← HX.out]; exact HE.out, by simp; omega⟩
        case measure => rw [HM.out, HRR.out.leftN]; omega
end Go.Proofs.YtemgpghjolpneaaGreatDoor
