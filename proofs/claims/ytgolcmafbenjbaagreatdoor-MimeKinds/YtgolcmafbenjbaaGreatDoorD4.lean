/- What this text holds: the document's Kind. -/
import Derived.Test.YtgolcmafbenjbaaGreatDoorD3
namespace Go.Proofs.YtgolcmafbenjbaaGreatDoor
open Go.RowKit
set_option linter.unusedVariables false
set_option linter.unusedSimpArgs false

theorem quM_suf (n : Nat) : ∀ (l : Bs) (r : Bs × Bs), l.length ≤ n → quM l = some r → r.2 <:+ l := by
  induction n with
  | zero => intro l r hl h; cases l with
    | nil => simp [quM] at h
    | cons c t => simp at hl
  | succ n ih =>
    intro l r hl h
    cases l with
    | nil => simp [quM] at h
    | cons c t =>
      simp only [List.length_cons] at hl
      rw [quM.eq_def] at h
      simp only at h
      split at h
      · cases h; exact List.suffix_cons _ _
      · split at h
        · cases t with
          | nil => simp at h
          | cons d u =>
            simp only [List.length_cons] at hl
            simp only [Option.map_eq_some_iff] at h
            obtain ⟨q, hq, rfl⟩ := h
            exact ((ih u q (by omega) hq).trans (List.suffix_cons _ _)).trans (List.suffix_cons _ _)
        · simp only [Option.map_eq_some_iff] at h
          obtain ⟨q, hq, rfl⟩ := h
          exact (ih t q (by omega) hq).trans (List.suffix_cons _ _)
theorem pb_suf (l : Bs) : pb l <:+ l := List.dropWhile_suffix _
theorem tokR_suf (l : Bs) : tokR l <:+ l := (List.dropWhile_suffix _).trans (pb_suf l)
theorem sgn_suf {c : UInt8} {l t : Bs} (h : sgn c l = some t) : t <:+ l := by
  unfold sgn at h
  have hp := pb_suf l
  split at h
  · cases h
  · rename_i d u hu
    split at h
    · cases h
      rw [hu] at hp
      exact (List.suffix_cons _ _).trans hp
    · cases h
theorem valM_suf {l : Bs} {r : Bs × Bs} (h : valM l = some r) : r.2 <:+ l := by
  unfold valM at h
  split at h
  · rename_i t ht
    exact (quM_suf _ t r (Nat.le_refl _) h).trans (sgn_suf ht)
  · split at h
    · cases h
    · cases h; exact tokR_suf l
theorem val_end {s : Bs} {k : Nat} {r : Bs × Bs} (h : valM (s.drop k) = some r) : s.drop (s.length - r.2.length) = r.2 :=
  (List.suffix_iff_eq_drop.1 ((valM_suf h).trans (List.drop_suffix _ _))).symm
theorem parM_0 {l : Bs} (h : sgn 59 l = none) : parM l = none := by unfold parM; rw [h]
theorem parM_1 {l t : Bs} (h : sgn 59 l = some t) (h1 : tokT t = []) : parM l = none := by unfold parM; rw [h]; simp [h1]
theorem parM_2 {l t : Bs} (h : sgn 59 l = some t) (h2 : sgn 61 (tokR t) = none) : parM l = none := by unfold parM; rw [h]; simp [h2]
theorem parM_3 {l t u : Bs} (h : sgn 59 l = some t) (h2 : sgn 61 (tokR t) = some u) (h3 : valM u = none) : parM l = none := by unfold parM; rw [h]; simp [h2, h3]
theorem parM_4 {l t u : Bs} {r : Bs × Bs} (h : sgn 59 l = some t) (h1 : tokT t ≠ []) (h2 : sgn 61 (tokR t) = some u) (h3 : valM u = some r) : parM l = some ((low (tokT t), r.1), r.2) := by unfold parM; rw [h]; simp [h1, h2, h3]
theorem sgV_none {c : UInt8} {s : Bs} {i : Nat} (h : sgn c (s.drop i) = none) : sgV c s i = -1 := by unfold sgV; rw [h]
theorem sgV_some {c : UInt8} {s t : Bs} {i : Nat} (h : sgn c (s.drop i) = some t) : sgV c s i = ((bpos s i + 1 : Nat) : Int) := by unfold sgV; rw [h]
/-- One Param more. -/
theorem par_one {w : World} {B : Nat} {v : Value} {L : List (Bs × Bs)} (ho : RO w B 44 2 v (L.map pR)) (hB : B ≤ w.heap.size) (hL : L.length ≤ 10000000) (p : Bs × Bs) :
    ∃ v' w', (Builtin.append_ #[23, 23] 23 #[v, .slice (some ⟨w.heap.size, 0, none⟩) 1 1]).run Tryz.prog (w.alloc (.cells #[.string (str p.1), .string (str p.2)] 44)) = .ok v' w' ∧ RO w' B 44 2 v' ((L ++ [p]).map pR) ∧ Below B w w' := by
  obtain ⟨v', w', h1, h2, h3⟩ := ro_one Tryz.underlying23 Tryz.info44 rfl (by omega) (by omega) ho hB (by simpa using hL) (pR p) rfl w.heap.size rfl
  exact ⟨v', w', h1, by simpa using h2, h3⟩
set_option maxRecDepth 100000 in
set_option maxHeartbeats 4000000 in
theorem rkind_any (s : Bs) (w : World) (hs : s.length ≤ 1000000) : Calls Tryz.prog 10 #[.string (str s)] w (KindIs s w) := by
  have HT0 := hid (rtoken_any s 0 w (by omega) hs)
  rw [List.drop_zero, show ((0 : Nat) : Int) = 0 from rfl] at HT0
  have hp0 := tpos_le s 0 (by omega)
  have HD0 : Hid (s.drop (tpos s 0) = tokR s) := by have := tpos_drop s 0; rw [List.drop_zero] at this; exact this
  have HS0 := hid (rsign_any s (tpos s 0) 47 w hp0 hs)
  rw [show ((47 : UInt8).toNat : Int) = 47 from rfl] at HS0
  have hal := tokT_len s
  generalize tpos s 0 = p0 at *
  by_cases h0 : tokT s = []
  · have HK : Hid (kindM s = (wText, wPlain, [])) := by simp [Hid, kindM, headM, h0]
    have hq : ((str (tokT s)).toList == []) = true := by rw [eqL]; simp [h0]
    generalize tokT s = A at *
    generalize sgV 47 s p0 = z at *
    clear h0
    go_enter Tryz.func10, Tryz.ntmps10
    go_wp2_with fail
    refine HT0.out.mono ?_
    rintro e w1 ⟨rfl, hw1⟩
    subst w1
    go_wp2_with fail
    refine HS0.out.mono ?_
    rintro e w1 ⟨rfl, hw1⟩
    subst w1
    go_wp2_with fail
    go_ret3
    refine ⟨?_, Below.refl _ _⟩
    rw [HK.out]
    exact ⟨_, rfl, (RO.nil _ 0 44 2).rl, fun g hg => by simp [blk] at hg⟩
  · have hq : ((str (tokT s)).toList == []) = false := by rw [eqL]; simp [h0]
    cases hg : sgn 47 (tokR s) with
    | none =>
      have HK : Hid (kindM s = (wText, wPlain, [])) := by simp [Hid, kindM, headM, h0, hg]
      have hv : sgV 47 s p0 = -1 := sgV_none (by rw [HD0.out]; exact hg)
      rw [hv] at HS0
      generalize tokT s = A at *
      clear h0 hg hv
      go_enter Tryz.func10, Tryz.ntmps10
      go_wp2_with fail
      refine HT0.out.mono ?_
      rintro e w1 ⟨rfl, hw1⟩
      subst w1
      go_wp2_with fail
      refine HS0.out.mono ?_
      rintro e w1 ⟨rfl, hw1⟩
      subst w1
      go_wp2_with fail
      go_ret3
      refine ⟨?_, Below.refl _ _⟩
      rw [HK.out]
      exact ⟨_, rfl, (RO.nil _ 0 44 2).rl, fun g hg => by simp [blk] at hg⟩
    | some t =>
      have hg' : sgn 47 (s.drop p0) = some t := by rw [HD0.out]; exact hg
      obtain ⟨htd, hbl⟩ := sg_drop hg'
      have hv := sgV_some hg'
      rw [hv] at HS0
      have hql : bpos s p0 + 1 ≤ s.length := by omega
      generalize bpos s p0 + 1 = q at *
      have hq0 : ¬ (q : Int) < 0 := by omega
      have HT1 := hid (rtoken_any s q w hql hs)
      have hk0 := tpos_le s q hql
      have HD1 := hid (tpos_drop s q)
      rw [htd] at HT1 HD1
      have htl := tokT_len t
      have htl2 : t.length ≤ s.length := by rw [← htd]; simp
      by_cases h1 : tokT t = []
      · have HK : Hid (kindM s = (wText, wPlain, [])) := by simp [Hid, kindM, headM, h0, hg, h1]
        have hq1 : ((str (tokT t)).toList == []) = true := by rw [eqL]; simp [h1]
        generalize tokT s = A at *
        generalize tokT t = T at *
        clear h0 hg hg' hv h1 htd hbl
        go_enter Tryz.func10, Tryz.ntmps10
        go_wp2_with fail
        refine HT0.out.mono ?_
        rintro e w1 ⟨rfl, hw1⟩
        subst w1
        go_wp2_with fail
        refine HS0.out.mono ?_
        rintro e w1 ⟨rfl, hw1⟩
        subst w1
        go_wp2_with fail
        refine HT1.out.mono ?_
        rintro e w1 ⟨rfl, hw1⟩
        subst w1
        go_wp2_with fail
        go_ret3
        refine ⟨?_, Below.refl _ _⟩
        rw [HK.out]
        exact ⟨_, rfl, (RO.nil _ 0 44 2).rl, fun g hg => by simp [blk] at hg⟩
      · have HK : Hid (kindM s = (low (tokT s), low (tokT t), parsM (s.drop (tpos s q)))) := by rw [HD1.out]; simp [Hid, kindM, headM, h0, hg, h1]
        have hq1 : ((str (tokT t)).toList == []) = false := by rw [eqL]; simp [h1]
        have hTl : (tokT t).length ≤ s.length := by omega
        have HAl := hid hal
        have HTl := hid hTl
        generalize tokT s = A at *
        generalize tokT t = T at *
        generalize tpos s q = k0 at *
        clear h0 hg hg' hv h1 htd hbl HD1 HD0 htl htl2
        go_enter Tryz.func10, Tryz.ntmps10
        go_wp2_with fail
        refine HT0.out.mono ?_
        rintro e w1 ⟨rfl, hw1⟩
        subst w1
        go_wp2_with fail
        refine HS0.out.mono ?_
        rintro e w1 ⟨rfl, hw1⟩
        subst w1
        go_wp2_with fail
        refine HT1.out.mono ?_
        rintro e w1 ⟨rfl, hw1⟩
        subst w1
        go_wp2_with fail
        go_loopw [6, 8] (fun i v wr => ∃ (k : Nat) (L : List (Bs × Bs)), k ≤ s.length ∧ i = .int .i64 k ∧ RO wr w.heap.size 44 2 v (L.map pR) ∧ Below w.heap.size w wr ∧ parsM (s.drop k0) = L ++ parsM (s.drop k) ∧ L.length ≤ k) (fun i _ _ => s.length - (intOf i).toNat)
        case atStart => exact ⟨k0, [], hk0, rfl, RO.nil _ _ _ _, Below.refl _ _, rfl, by simp⟩
        case round =>
          obtain ⟨k, L, hk, rfl, ho, hb, hp, hLk⟩ := hrel
          have HO := hid ho
          have HB := hid hb
          have HP := hid hp
          have HS := hid (rsign_any s k 59 wr hk hs)
          rw [show ((59 : UInt8).toNat : Int) = 59 from rfl] at HS
          obtain ⟨a0, c0, hv0⟩ := ho.sliceN (n := L.length) (by simp)
          subst hv0
          clear ho hb hp HT0 HS0 HT1
          cases hg : sgn 59 (s.drop k) with
          | none =>
            rw [sgV_none hg] at HS
            have HPe : Hid (parsM (s.drop k0) = L) := by rw [Hid, HP.out, pars_none (parM_0 hg), List.append_nil]
            clear hg
            go_wp2_with fail
            refine HS.out.mono ?_
            rintro e w1 ⟨rfl, hw1⟩
            subst w1
            go_wp2_with fail
            have HL1 := hid (rlower_any A wr (by omega))
            refine HL1.out.mono ?_
            rintro e w2 ⟨rfl, hb2⟩
            have HB2 := hid (HB.out.trans (hb2.mono HB.out.size))
            have HO2 := hid (HO.out.later hb2)
            have HL2 := hid (rlower_any T w2 (by omega))
            clear hb2
            go_wp2_with fail
            refine HL2.out.mono ?_
            rintro e w3 ⟨rfl, hb3⟩
            have HB3 := hid (HB2.out.trans (hb3.mono HB2.out.size))
            have HO3 := hid (HO2.out.later hb3)
            clear hb3
            go_wp2_with fail
            go_ret3
            refine ⟨?_, HB3.out⟩
            rw [HK.out, HPe.out]
            exact ⟨_, rfl, HO3.out.rl, HO3.out.blk⟩
          | some t1 =>
            obtain ⟨htd, hbl⟩ := sg_drop hg
            rw [sgV_some hg] at HS
            have hql1 : bpos s k + 1 ≤ s.length := by omega
            generalize bpos s k + 1 = q1 at *
            have hq10 : ¬ (q1 : Int) < 0 := by omega
            have HT2 := hid (rtoken_any s q1 wr hql1 hs)
            have hk2 := tpos_le s q1 hql1
            have HD2 := hid (tpos_drop s q1)
            rw [htd] at HT2 HD2
            have htl := tokT_len t1
            have htl2 : t1.length ≤ s.length := by rw [← htd]; simp
            have HS2 := hid (rsign_any s (tpos s q1) 61 wr hk2 hs)
            rw [show ((61 : UInt8).toNat : Int) = 61 from rfl] at HS2
            generalize tpos s q1 = k2 at *
            by_cases h1 : tokT t1 = []
            · have HPe : Hid (parsM (s.drop k0) = L) := by rw [Hid, HP.out, pars_none (parM_1 hg h1), List.append_nil]
              have hq2 : ((str (tokT t1)).toList == []) = true := by rw [eqL]; simp [h1]
              generalize tokT t1 = T1 at *
              generalize sgV 61 s k2 = z at *
              clear hg h1 htd hbl
              go_wp2_with fail
              refine HS.out.mono ?_
              rintro e w1 ⟨rfl, hw1⟩
              subst w1
              go_wp2_with fail
              refine HT2.out.mono ?_
              rintro e w1 ⟨rfl, hw1⟩
              subst w1
              go_wp2_with fail
              refine HS2.out.mono ?_
              rintro e w1 ⟨rfl, hw1⟩
              subst w1
              go_wp2_with fail
              have HL1 := hid (rlower_any A wr (by omega))
              refine HL1.out.mono ?_
              rintro e w2 ⟨rfl, hb2⟩
              have HB2 := hid (HB.out.trans (hb2.mono HB.out.size))
              have HO2 := hid (HO.out.later hb2)
              have HL2 := hid (rlower_any T w2 (by omega))
              clear hb2
              go_wp2_with fail
              refine HL2.out.mono ?_
              rintro e w3 ⟨rfl, hb3⟩
              have HB3 := hid (HB2.out.trans (hb3.mono HB2.out.size))
              have HO3 := hid (HO2.out.later hb3)
              clear hb3
              go_wp2_with fail
              go_ret3
              refine ⟨?_, HB3.out⟩
              rw [HK.out, HPe.out]
              exact ⟨_, rfl, HO3.out.rl, HO3.out.blk⟩
            · have hq2 : ((str (tokT t1)).toList == []) = false := by rw [eqL]; simp [h1]
              cases hg2 : sgn 61 (tokR t1) with
              | none =>
                have HPe : Hid (parsM (s.drop k0) = L) := by rw [Hid, HP.out, pars_none (parM_2 hg hg2), List.append_nil]
                rw [sgV_none (by rw [HD2.out]; exact hg2)] at HS2
                generalize tokT t1 = T1 at *
                clear hg h1 htd hbl hg2
                go_wp2_with fail
                refine HS.out.mono ?_
                rintro e w1 ⟨rfl, hw1⟩
                subst w1
                go_wp2_with fail
                refine HT2.out.mono ?_
                rintro e w1 ⟨rfl, hw1⟩
                subst w1
                go_wp2_with fail
                refine HS2.out.mono ?_
                rintro e w1 ⟨rfl, hw1⟩
                subst w1
                go_wp2_with fail
                have HL1 := hid (rlower_any A wr (by omega))
                refine HL1.out.mono ?_
                rintro e w2 ⟨rfl, hb2⟩
                have HB2 := hid (HB.out.trans (hb2.mono HB.out.size))
                have HO2 := hid (HO.out.later hb2)
                have HL2 := hid (rlower_any T w2 (by omega))
                clear hb2
                go_wp2_with fail
                refine HL2.out.mono ?_
                rintro e w3 ⟨rfl, hb3⟩
                have HB3 := hid (HB2.out.trans (hb3.mono HB2.out.size))
                have HO3 := hid (HO2.out.later hb3)
                clear hb3
                go_wp2_with fail
                go_ret3
                refine ⟨?_, HB3.out⟩
                rw [HK.out, HPe.out]
                exact ⟨_, rfl, HO3.out.rl, HO3.out.blk⟩
              | some u =>
                have hg3 : sgn 61 (s.drop k2) = some u := by rw [HD2.out]; exact hg2
                obtain ⟨hud, hbl2⟩ := sg_drop hg3
                rw [sgV_some hg3] at HS2
                have hql3 : bpos s k2 + 1 ≤ s.length := by omega
                generalize bpos s k2 + 1 = q3 at *
                have hq30 : ¬ (q3 : Int) < 0 := by omega
                have HV := hid (rvalue_any s q3 wr hql3 hs)
                rw [hud] at HV
                cases hvl : valM u with
                | none =>
                  have HPe : Hid (parsM (s.drop k0) = L) := by rw [Hid, HP.out, pars_none (parM_3 hg hg2 hvl), List.append_nil]
                  rw [hvl] at HV
                  simp only [vaV] at HV
                  generalize tokT t1 = T1 at *
                  clear hg h1 htd hbl hg2 hg3 hud hbl2 hvl
                  go_wp2_with fail
                  refine HS.out.mono ?_
                  rintro e w1 ⟨rfl, hw1⟩
                  subst w1
                  go_wp2_with fail
                  refine HT2.out.mono ?_
                  rintro e w1 ⟨rfl, hw1⟩
                  subst w1
                  go_wp2_with fail
                  refine HS2.out.mono ?_
                  rintro e w1 ⟨rfl, hw1⟩
                  subst w1
                  go_wp2_with fail
                  refine HV.out.mono ?_
                  rintro e w1 ⟨rfl, hw1⟩
                  subst w1
                  go_wp2_with fail
                  have HL1 := hid (rlower_any A wr (by omega))
                  refine HL1.out.mono ?_
                  rintro e w2 ⟨rfl, hb2⟩
                  have HB2 := hid (HB.out.trans (hb2.mono HB.out.size))
                  have HO2 := hid (HO.out.later hb2)
                  have HL2 := hid (rlower_any T w2 (by omega))
                  clear hb2
                  go_wp2_with fail
                  refine HL2.out.mono ?_
                  rintro e w3 ⟨rfl, hb3⟩
                  have HB3 := hid (HB2.out.trans (hb3.mono HB2.out.size))
                  have HO3 := hid (HO2.out.later hb3)
                  clear hb3
                  go_wp2_with fail
                  go_ret3
                  refine ⟨?_, HB3.out⟩
                  rw [HK.out, HPe.out]
                  exact ⟨_, rfl, HO3.out.rl, HO3.out.blk⟩
                | some r =>
                  have hpm := parM_4 hg h1 hg2 hvl
                  have hen : s.drop (s.length - r.2.length) = r.2 := val_end (k := q3) (by rw [hud]; exact hvl)
                  have hln := (parM_len hpm).1
                  simp only [List.length_drop] at hln
                  have HPe : Hid (parsM (s.drop k0) = (L ++ [(low (tokT t1), r.1)]) ++ parsM (s.drop (s.length - r.2.length))) := by rw [Hid, HP.out, pars_some hpm, hen]; simp
                  rw [hvl] at HV
                  simp only [vaV] at HV
                  have hT1 : (tokT t1).length ≤ 10000000 := by omega
                  have hek : k < s.length - r.2.length := by omega
                  have hel : s.length - r.2.length ≤ s.length := by omega
                  generalize s.length - r.2.length = en at *
                  have he0 : ¬ (en : Int) < 0 := by omega
                  generalize tokT t1 = T1 at *
                  generalize r.1 = V at *
                  clear hg h1 htd hbl hg2 hg3 hud hbl2 hvl hpm hen hln htl
                  have HLw := hid (rlower_any T1 wr hT1)
                  go_wp2_with fail
                  refine HS.out.mono ?_
                  rintro e w1 ⟨rfl, hw1⟩
                  subst w1
                  go_wp2_with fail
                  refine HT2.out.mono ?_
                  rintro e w1 ⟨rfl, hw1⟩
                  subst w1
                  go_wp2_with fail
                  refine HS2.out.mono ?_
                  rintro e w1 ⟨rfl, hw1⟩
                  subst w1
                  go_wp2_with fail
                  refine HV.out.mono ?_
                  rintro e w1 ⟨rfl, hw1⟩
                  subst w1
                  go_wp2_with fail
                  refine HLw.out.mono ?_
                  rintro e w2 ⟨rfl, hb2⟩
                  have HB2 := hid (HB.out.trans (hb2.mono HB.out.size))
                  obtain ⟨v', w', hr, ho', hb'⟩ := par_one (HO.out.later hb2) HB2.out.size (by omega) (low T1, V)
                  have HR := hid hr
                  have HO' := hid ho'
                  have HB' := hid (HB2.out.trans hb')
                  obtain ⟨a5, c5, hv5⟩ := ho'.sliceN (n := L.length + 1) (by simp)
                  subst hv5
                  clear hr ho' hb' hb2
                  go_wp2_with (at_builtin; refine wpList_append_run rfl rfl HR.out ?_)
                  go_roundw
                  case rel => exact ⟨en, L ++ [(low T1, V)], hel, rfl, HO'.out, HB'.out, HPe.out, by simp; omega⟩
                  case measure => simp [intOf]; omega
end Go.Proofs.YtgolcmafbenjbaaGreatDoor
