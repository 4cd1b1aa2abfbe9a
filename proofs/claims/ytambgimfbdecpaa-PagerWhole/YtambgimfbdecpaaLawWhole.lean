/- Proved here: however the power goes in what is put and committed, and whatever a crash keeps: what is opened then is all as it was committed ahead, or all as it is committed now; that, if it was answered OK (PagerWhole returns true for every input, and leaves its arguments as they were). No condition. -/
import Derived.Test.YtambgimfbdecpaaRows
import Derived.Test.YtambgimfbdecpaaGKeeps
import Derived.ProofKit
import Derived.ShutString
import Derived.ChangeOld
import Derived.Below
namespace Go.Proofs.Ytambgimfbdecpaa.pagerWhole
open Go.ChangeShapes Go.WideShapes Go.ChangeAt Go.RowKit
set_option linter.unusedVariables false

theorem f_range (n : Int) : ∃ N : Nat, N ≤ 40 ∧ (wrap64 (n.tmod 41 + 41)).tmod 41 = (N : Int) := by
  have h1 := Int.tmod_lt_of_pos n (show (0 : Int) < 41 by decide)
  have h2 := Int.lt_tmod_of_pos n (show (0 : Int) < 41 by decide)
  rw [wrap64_fits (n.tmod 41 + 41) (by omega) (by omega), Int.tmod_eq_emod_of_nonneg (by omega)]
  exact ⟨((n.tmod 41 + 41) % 41).toNat, by omega, by omega⟩

set_option maxRecDepth 100000 in
set_option maxHeartbeats 8000000 in
theorem walk {w : World} {a0 : Option Addr} {l0 c0 : Nat} {ss : List ByteArray} {a1 : Option Addr} {l1 c1 : Nat} {ts : List ByteArray} {a2 : Option Addr} {l2 c2 : Nat} {zs : List Int} {fu : Int} {a4 : Option Addr} {l4 c4 : Nat} {ks : List (Int × Int)}
    (hS : StrsOk w a0 l0 ss) (hT : StrsOk w a1 l1 ts) (hZ : IntsOk w a2 l2 zs) (hK : KeepsOk w a4 l4 ks) :
    Calls Try.prog 4 #[.slice a0 l0 c0, .slice a1 l1 c1, .slice a2 l2 c2, .int .i64 fu, .slice a4 l4 c4] w fun e w' => e = .returned (.bool true) ∧ Below w.heap.size w w' := by
  have HT := hid hT
  have HZ := hid hZ
  have HK := hid hK
  have HBG := hid (begun_any w 30 (by omega) (by omega) a0 l0 c0 ss hS)
  have hl1 := hT.1
  have hl2 := hZ.1
  have hm1 := hT.2.1
  have hm2 := hZ.2.1
  have hm4 := hK.2.1
  unfold maxLen at hm1 hm2 hm4
  obtain ⟨F, hF40, hFe⟩ := f_range fu
  clear hS hT hZ hK
  go_enter Try.func4, Try.ntmps4
  go_wp2_with fail
  refine HBG.out.mono ?_
  rintro e w1 ⟨db, b, hv, all1, P1, rfl, hp1, hpg1, hsp1, hbg1, hb1⟩
  have HP1 := hid hp1
  have HPG1 := hid hpg1
  have HSP1 := hid hsp1
  have HBg1 := hid hbg1
  have HB1 := hid hb1
  clear hp1 hpg1 hsp1 hbg1 hb1 HBG
  obtain ⟨m, hm⟩ : ∃ m, m = min ss.length 12 := ⟨_, rfl⟩
  rw [← hm] at HPG1 HBg1
  have hm12 : m ≤ 12 := by omega
  clear hm
  by_cases h200 : l4 ≤ 200
  · have h200' : ¬ (200 : Int) < l4 := by omega
    by_cases h12 : l1 ≤ 12
    · have h12' : ¬ (12 : Int) < l1 := by omega
      by_cases h20 : l2 ≤ 20
      · have h20' : ¬ (20 : Int) < l2 := by omega
        have HBase := hid (HBg1.out.base0 HP1.out.good hm12)
        have HWh0 := hid (HBg1.out.wh hm12 F)
        go_wp2_with (first | (go_at_call 12; refine (alive_any _).mono ?_; rintro e w2 ⟨rfl, hb2⟩; have HP2 := hid (HP1.out.later hb2); have HPG2 := hid (HPG1.out.keep (Kept.ofBelow hb2 []) (by simp)); have HB2 := hid (HB1.out.trans (hb2.mono HB1.out.size)); clear hb2 HP1 HPG1 HB1))
        refine (fuse_p HP2.out F (by omega)).mono ?_
        generalize PS.mk (P1.D.fused F) P1.st P1.pins P1.pm P1.gen P1.root P1.dead = P3 at HWh0 ⊢
        generalize P1.D.secs = S at HWh0 HBase
        rintro e w3 ⟨rfl, all3, hp3, hk3, hn3⟩
        have HP3 := hid hp3
        have HB3 := hid (DidP.below HP2.out hk3 HB2.out (Nat.le_refl _))
        have HPG3 := hid (HPG2.out.keep hk3 HSP1.out)
        have HSP3 : Hid (∀ g, (hv).ownBlock = some g → g ∉ all3) := fun g hg hm => by
          rcases hn3 g hm with h | h
          · exact HSP1.out g hg h
          · have := (HPG2.out.lt g hg).2; omega
        clear hp3 hk3 hn3 HBg1 HP2 HB2 HPG2 HSP1
        obtain ⟨v4, w4, hrun, hpg4, hb4⟩ := pgs_copy HPG3.out (by rw [pagesOf_length]; omega)
        have HRun := hid hrun
        have HP4 := hid (HP3.out.later hb4)
        have HPH4 := hid (HPG3.out.keep (Kept.ofBelow hb4 []) (by simp))
        have HPN4 := hid (hpg4.base HB3.out.size)
        have HSN4 : Hid (∀ g, v4.ownBlock = some g → g ∉ all3) := fun g hg hm => by have h1 := (hpg4.lt g hg).1; have h2 := (HP3.out.lt g hm).2; omega
        have HAP4 : Hid (∀ g, hv.ownBlock = some g → v4.ownBlock ≠ some g) := fun g hg hm => by have h1 := (hpg4.lt g hm).1; have h2 := (HPG3.out.lt g hg).2; omega
        have HB4 := hid (HB3.out.trans (hb4.mono HB3.out.size))
        clear hrun hpg4 hb4 HP3 HPG3 HB3
        go_wp2_with (first | (at_builtin; refine wpList_append_run rfl rfl HRun.out ?_))
        go_loopw [61, 14] (fun q nv wr => ∃ j : Nat, j ≤ l2 ∧ q = .int .i64 j ∧ ∃ P all now, Pgr wr w.heap.size b db all P ∧ Wh m S 0 now P ∧ now.length ≤ 12 ∧ PgsAt wr w.heap.size hv (pagesOf ss m) ∧ (∀ g, hv.ownBlock = some g → g ∉ all) ∧ PgsAt wr w.heap.size nv now ∧ (∀ g, nv.ownBlock = some g → g ∉ all) ∧ (∀ g, hv.ownBlock = some g → nv.ownBlock ≠ some g) ∧ Below w.heap.size w wr) (fun q _ _ => l2 - (intOf q).toNat)
        case atStart => exact ⟨0, by omega, rfl, _, _, _, HP4.out, HWh0.out, by rw [pagesOf_length]; omega, HPH4.out, HSP3.out, HPN4.out, HSN4.out, HAP4.out, HB4.out⟩
        case round =>
          clear HP4 HWh0 HPH4 HSP3 HPN4 HSN4 HAP4 HB4 HRun
          obtain ⟨j, hjl, rfl, P, all, now, hP, hWh, hnl, hPh, hSh, hPn, hSn, hAp, hBel⟩ := hrel
          have HP := hid hP
          have HWh := hid hWh
          have HPH := hid hPh
          have HSH := hid hSh
          have HPN := hid hPn
          have HSN := hid hSn
          have HAP := hid hAp
          have HBL := hid hBel
          clear hP hWh hPh hSh hPn hSn hAp hBel
          by_cases hjt : j < l2
          · have hjt' : (j : Int) < l2 := by omega
            obtain ⟨ab, ao, ha, hc⟩ := (HZ.out.later HBL.out).get j (by omega)
            subst ha
            generalize zs[j]'(by omega) = z at hc
            have hdr := drop_all HP.out z
            rcases HWh.out.drop z with ⟨hr1, hr2⟩ | ⟨hr1, hr2⟩
            · rw [hr1] at hdr
              generalize (P.drop z).2 = P' at hdr hr2
              have HDr := hid hdr
              have HR2 := hid hr2
              clear hdr hr1 hr2
              go_wp2_with fail
              refine HDr.out.mono ?_
              rintro e w5 ⟨rfl, all5, hp5, hk5, hn5⟩
              have HP5 := hid hp5
              have HB5 := hid (DidP.below HP.out hk5 HBL.out (Nat.le_refl _))
              have HPH5 := hid (HPH.out.keep hk5 HSH.out)
              have HPN5 := hid (HPN.out.keep hk5 HSN.out)
              have HSH5 : Hid (∀ g, hv.ownBlock = some g → g ∉ all5) := fun g hg hm => by
                rcases hn5 g hm with h | h
                · exact HSH.out g hg h
                · have := (HPH.out.lt g hg).2; omega
              have HSN5 : Hid (∀ g, u14.ownBlock = some g → g ∉ all5) := fun g hg hm => by
                rcases hn5 g hm with h | h
                · exact HSN.out g hg h
                · have := (HPN.out.lt g hg).2; omega
              clear hp5 hk5 hn5
              have HWo := hid (without_any HPN5.out z (by omega))
              go_wp2_with (first | (go_at_call 11; refine (no_any _ _).mono ?_; rintro e wd ⟨rfl, rfl⟩))
              refine HWo.out.mono ?_
              rintro e w6 ⟨v', rfl, hpg6, hb6⟩
              have HP6 := hid (HP5.out.later hb6)
              have HPH6 := hid (HPH5.out.keep (Kept.ofBelow hb6 []) (by simp))
              have HPN6 := hid (hpg6.base HB5.out.size)
              have HSN6 : Hid (∀ g, v'.ownBlock = some g → g ∉ all5) := fun g hg hm => by have h1 := (hpg6.lt g hg).1; have h2 := (HP5.out.lt g hm).2; omega
              have HAP6 : Hid (∀ g, hv.ownBlock = some g → v'.ownBlock ≠ some g) := fun g hg hm => by have h1 := (hpg6.lt g hm).1; have h2 := (HPH5.out.lt g hg).2; omega
              have HB6 := hid (HB5.out.trans (hb6.mono HB5.out.size))
              clear hpg6 hb6 HWo
              go_wp2_with fail
              go_roundw
              case rel => exact ⟨j + 1, by omega, by go_num, P', all5, _, HP6.out, HR2.out, Nat.le_trans (withoutL_length _ _) hnl, HPH6.out, HSH5.out, HPN6.out, HSN6.out, HAP6.out, HB6.out⟩
              case measure => simp [intOf]; omega
            · have hr1' : ((P.drop z).1 == 0) = false := by rw [beq_eq_false_iff_ne]; exact hr1
              generalize P.drop z = X at hdr hr2 hr1'
              obtain ⟨x, P'⟩ := X
              simp only at hdr hr2 hr1'
              have HDr := hid hdr
              have HR2 := hid hr2
              clear hdr hr1 hr2
              go_wp2_with fail
              refine HDr.out.mono ?_
              rintro e w5 ⟨rfl, all5, hp5, hk5, hn5⟩
              have HP5 := hid hp5
              have HB5 := hid (DidP.below HP.out hk5 HBL.out (Nat.le_refl _))
              have HPH5 := hid (HPH.out.keep hk5 HSH.out)
              have HPN5 := hid (HPN.out.keep hk5 HSN.out)
              have HSH5 : Hid (∀ g, hv.ownBlock = some g → g ∉ all5) := fun g hg hm => by
                rcases hn5 g hm with h | h
                · exact HSH.out g hg h
                · have := (HPH.out.lt g hg).2; omega
              have HSN5 : Hid (∀ g, u14.ownBlock = some g → g ∉ all5) := fun g hg hm => by
                rcases hn5 g hm with h | h
                · exact HSN.out g hg h
                · have := (HPN.out.lt g hg).2; omega
              clear hp5 hk5 hn5
              go_wp2_with (first | (go_at_call 11; refine (no_any _ _).mono ?_; rintro e wd ⟨rfl, rfl⟩))
              go_roundw
              case rel => exact ⟨j + 1, by omega, by go_num, P', all5, now, HP5.out, HR2.out, hnl, HPH5.out, HSH5.out, HPN5.out, HSN5.out, HAP.out, HB5.out⟩
              case measure => simp [intOf]; omega
          · obtain rfl : j = l2 := by omega
            have hjt' : ¬ (j : Int) < j := by omega
            go_wp2_with fail
            go_loopw [76, 14] (fun q nv wr => ∃ i : Nat, i ≤ l1 ∧ q = .int .i64 i ∧ ∃ P all now, Pgr wr w.heap.size b db all P ∧ Wh m S i now P ∧ now.length ≤ 12 + i ∧ PgsAt wr w.heap.size hv (pagesOf ss m) ∧ (∀ g, hv.ownBlock = some g → g ∉ all) ∧ PgsAt wr w.heap.size nv now ∧ (∀ g, nv.ownBlock = some g → g ∉ all) ∧ (∀ g, hv.ownBlock = some g → nv.ownBlock ≠ some g) ∧ Below w.heap.size w wr) (fun q _ _ => l1 - (intOf q).toNat)
            case atStart => exact ⟨0, by omega, rfl, _, _, _, HP.out, HWh.out, by omega, HPH.out, HSH.out, HPN.out, HSN.out, HAP.out, HBL.out⟩
            case round =>
              clear HP HWh HPH HSH HPN HSN HAP HBL hnl
              obtain ⟨i, hil, rfl, P, all, now, hP, hWh, hnl, hPh, hSh, hPn, hSn, hAp, hBel⟩ := hrel
              have HP := hid hP
              have HWh := hid hWh
              have HPH := hid hPh
              have HSH := hid hSh
              have HPN := hid hPn
              have HSN := hid hSn
              have HAP := hid hAp
              have HBL := hid hBel
              clear hP hWh hPh hSh hPn hSn hAp hBel
              by_cases hit : i < l1
              · have hit' : (i : Int) < l1 := by omega
                obtain ⟨ab, ao, ha, hc, hsz⟩ := (HT.out.later HBL.out).get i (by omega)
                subst ha
                generalize ts[i]'(by omega) = s at hc hsz
                have HSz := hid hsz
                unfold maxLen at hsz
                by_cases h492 : s.size ≤ 492
                · have h492' : ¬ (492 : Int) < s.size := by omega
                  have hput := put_all HP.out (by have := HWh.out.s; omega) (by have := HWh.out.w; omega) i (s) (HSz.out)
                  have hwp := HWh.out.put i (by omega) (s) (h492) hm12
                  clear h492
                  generalize P.put i (s) = X at hput hwp
                  obtain ⟨⟨x, y⟩, P'⟩ := X
                  simp only at hput hwp
                  have HDr := hid hput
                  clear hput
                  rcases hwp with ⟨rfl, hr2⟩ | ⟨hr1, hr2⟩
                  · have HR2 := hid hr2
                    clear hr2
                    go_wp2_with fail
                    refine HDr.out.mono ?_
                    rintro e w5 ⟨rfl, all5, hp5, hk5, hn5⟩
                    have HP5 := hid hp5
                    have HB5 := hid (DidP.below HP.out hk5 HBL.out (Nat.le_refl _))
                    have HPH5 := hid (HPH.out.keep hk5 HSH.out)
                    have HPN5 := hid (HPN.out.keep hk5 HSN.out)
                    have HSH5 : Hid (∀ g, hv.ownBlock = some g → g ∉ all5) := fun g hg hm => by
                      rcases hn5 g hm with h | h
                      · exact HSH.out g hg h
                      · have := (HPH.out.lt g hg).2; omega
                    have HSN5 : Hid (∀ g, u14.ownBlock = some g → g ∉ all5) := fun g hg hm => by
                      rcases hn5 g hm with h | h
                      · exact HSN.out g hg h
                      · have := (HPN.out.lt g hg).2; omega
                    clear hp5 hk5 hn5
                    obtain ⟨v', w6, hrun, hpg6, hk6, hloc6⟩ := pgs_append HPN5.out HB5.out.size (x, s) (by omega)
                    have HPN6 := hid hpg6
                    have HRun := hid hrun
                    have HP6 := hid (HP5.out.keep hk6 (fun i hi hm => by simp only [Option.mem_toList] at hm; exact HSN5.out i hm hi))
                    have HB6 := hid (below_kept HB5.out hk6 (fun i hi => by simp only [Option.mem_toList] at hi; exact (HPN5.out.lt i hi).1) HB5.out.size)
                    have HSN6 : Hid (∀ g, v'.ownBlock = some g → g ∉ all5) := fun g hg hm => by
                      rcases hloc6 with h | ⟨g', h1, h2⟩
                      · exact HSN5.out g (by rw [← h]; exact hg) hm
                      · rw [h1] at hg
                        cases hg
                        have := (HP5.out.lt _ hm).2
                        omega
                    have HPH6 := hid (HPH5.out.keep hk6 (fun g hg hm => by simp only [Option.mem_toList] at hm; exact HAP.out g hg hm))
                    have HAP6 : Hid (∀ g, hv.ownBlock = some g → v'.ownBlock ≠ some g) := fun g hg hm => by
                      rcases hloc6 with h | ⟨g', h1, h2⟩
                      · exact HAP.out g hg (by rw [← h]; exact hm)
                      · rw [h1] at hm
                        cases hm
                        have := (HPH5.out.lt _ hg).2
                        omega
                    clear hrun hpg6 hk6 hloc6
                    go_wp2_with (first | (go_at_call 11; refine (no_any _ _).mono ?_; rintro e wd ⟨rfl, rfl⟩) | (at_builtin; refine wpList_append_run rfl rfl HRun.out ?_))
                    go_roundw
                    case rel => exact ⟨i + 1, by omega, by go_num, P', all5, _, HP6.out, HR2.out, by simp; omega, HPH6.out, HSH5.out, HPN6.out, HSN6.out, HAP6.out, HB6.out⟩
                    case measure => simp [intOf]; omega
                  · have hr1' : (y == 0) = false := by rw [beq_eq_false_iff_ne]; exact hr1
                    have HR2 := hid hr2
                    clear hr2 hr1
                    go_wp2_with fail
                    refine HDr.out.mono ?_
                    rintro e w5 ⟨rfl, all5, hp5, hk5, hn5⟩
                    have HP5 := hid hp5
                    have HB5 := hid (DidP.below HP.out hk5 HBL.out (Nat.le_refl _))
                    have HPH5 := hid (HPH.out.keep hk5 HSH.out)
                    have HPN5 := hid (HPN.out.keep hk5 HSN.out)
                    have HSH5 : Hid (∀ g, hv.ownBlock = some g → g ∉ all5) := fun g hg hm => by
                      rcases hn5 g hm with h | h
                      · exact HSH.out g hg h
                      · have := (HPH.out.lt g hg).2; omega
                    have HSN5 : Hid (∀ g, u14.ownBlock = some g → g ∉ all5) := fun g hg hm => by
                      rcases hn5 g hm with h | h
                      · exact HSN.out g hg h
                      · have := (HPN.out.lt g hg).2; omega
                    clear hp5 hk5 hn5
                    go_wp2_with (first | (go_at_call 11; refine (no_any _ _).mono ?_; rintro e wd ⟨rfl, rfl⟩))
                    go_roundw
                    case rel => exact ⟨i + 1, by omega, by go_num, P', all5, now, HP5.out, HR2.out, by omega, HPH5.out, HSH5.out, HPN5.out, HSN5.out, HAP.out, HB5.out⟩
                    case measure => simp [intOf]; omega
                · have h492' : (492 : Int) < s.size := by omega
                  have hput := put_all HP.out (by have := HWh.out.s; omega) (by have := HWh.out.w; omega) i (s.extract 0 492) (by rw [ByteArray.size_extract]; unfold maxLen; omega)
                  have hwp := HWh.out.put i (by omega) (s.extract 0 492) (by rw [ByteArray.size_extract]; omega) hm12
                  clear h492
                  generalize P.put i (s.extract 0 492) = X at hput hwp
                  obtain ⟨⟨x, y⟩, P'⟩ := X
                  simp only at hput hwp
                  have HDr := hid hput
                  clear hput
                  rcases hwp with ⟨rfl, hr2⟩ | ⟨hr1, hr2⟩
                  · have HR2 := hid hr2
                    clear hr2
                    go_wp2_with fail
                    refine HDr.out.mono ?_
                    rintro e w5 ⟨rfl, all5, hp5, hk5, hn5⟩
                    have HP5 := hid hp5
                    have HB5 := hid (DidP.below HP.out hk5 HBL.out (Nat.le_refl _))
                    have HPH5 := hid (HPH.out.keep hk5 HSH.out)
                    have HPN5 := hid (HPN.out.keep hk5 HSN.out)
                    have HSH5 : Hid (∀ g, hv.ownBlock = some g → g ∉ all5) := fun g hg hm => by
                      rcases hn5 g hm with h | h
                      · exact HSH.out g hg h
                      · have := (HPH.out.lt g hg).2; omega
                    have HSN5 : Hid (∀ g, u14.ownBlock = some g → g ∉ all5) := fun g hg hm => by
                      rcases hn5 g hm with h | h
                      · exact HSN.out g hg h
                      · have := (HPN.out.lt g hg).2; omega
                    clear hp5 hk5 hn5
                    obtain ⟨v', w6, hrun, hpg6, hk6, hloc6⟩ := pgs_append HPN5.out HB5.out.size (x, s.extract 0 492) (by omega)
                    have HPN6 := hid hpg6
                    have HRun := hid hrun
                    have HP6 := hid (HP5.out.keep hk6 (fun i hi hm => by simp only [Option.mem_toList] at hm; exact HSN5.out i hm hi))
                    have HB6 := hid (below_kept HB5.out hk6 (fun i hi => by simp only [Option.mem_toList] at hi; exact (HPN5.out.lt i hi).1) HB5.out.size)
                    have HSN6 : Hid (∀ g, v'.ownBlock = some g → g ∉ all5) := fun g hg hm => by
                      rcases hloc6 with h | ⟨g', h1, h2⟩
                      · exact HSN5.out g (by rw [← h]; exact hg) hm
                      · rw [h1] at hg
                        cases hg
                        have := (HP5.out.lt _ hm).2
                        omega
                    have HPH6 := hid (HPH5.out.keep hk6 (fun g hg hm => by simp only [Option.mem_toList] at hm; exact HAP.out g hg hm))
                    have HAP6 : Hid (∀ g, hv.ownBlock = some g → v'.ownBlock ≠ some g) := fun g hg hm => by
                      rcases hloc6 with h | ⟨g', h1, h2⟩
                      · exact HAP.out g hg (by rw [← h]; exact hm)
                      · rw [h1] at hm
                        cases hm
                        have := (HPH5.out.lt _ hg).2
                        omega
                    clear hrun hpg6 hk6 hloc6
                    go_wp2_with (first | (go_at_call 11; refine (no_any _ _).mono ?_; rintro e wd ⟨rfl, rfl⟩) | (at_builtin; refine wpList_append_run rfl rfl HRun.out ?_))
                    go_roundw
                    case rel => exact ⟨i + 1, by omega, by go_num, P', all5, _, HP6.out, HR2.out, by simp; omega, HPH6.out, HSH5.out, HPN6.out, HSN6.out, HAP6.out, HB6.out⟩
                    case measure => simp [intOf]; omega
                  · have hr1' : (y == 0) = false := by rw [beq_eq_false_iff_ne]; exact hr1
                    have HR2 := hid hr2
                    clear hr2 hr1
                    go_wp2_with fail
                    refine HDr.out.mono ?_
                    rintro e w5 ⟨rfl, all5, hp5, hk5, hn5⟩
                    have HP5 := hid hp5
                    have HB5 := hid (DidP.below HP.out hk5 HBL.out (Nat.le_refl _))
                    have HPH5 := hid (HPH.out.keep hk5 HSH.out)
                    have HPN5 := hid (HPN.out.keep hk5 HSN.out)
                    have HSH5 : Hid (∀ g, hv.ownBlock = some g → g ∉ all5) := fun g hg hm => by
                      rcases hn5 g hm with h | h
                      · exact HSH.out g hg h
                      · have := (HPH.out.lt g hg).2; omega
                    have HSN5 : Hid (∀ g, u14.ownBlock = some g → g ∉ all5) := fun g hg hm => by
                      rcases hn5 g hm with h | h
                      · exact HSN.out g hg h
                      · have := (HPN.out.lt g hg).2; omega
                    clear hp5 hk5 hn5
                    go_wp2_with (first | (go_at_call 11; refine (no_any _ _).mono ?_; rintro e wd ⟨rfl, rfl⟩))
                    go_roundw
                    case rel => exact ⟨i + 1, by omega, by go_num, P', all5, now, HP5.out, HR2.out, by omega, HPH5.out, HSH5.out, HPN5.out, HSN5.out, HAP.out, HB5.out⟩
                    case measure => simp [intOf]; omega
              · obtain rfl : i = l1 := by omega
                have hit' : ¬ (i : Int) < i := by omega
                have hcom := commit_all HP.out (by have := HWh.out.s; omega) ⟨#[110, 101, 119]⟩ (by unfold maxLen; decide)
                have hcr := whole_crash HWh.out HBase.out HP.out.good ks
                have hnd := HWh.out.nd
                have hcn : (P.commit newS).2.D.n = 30 := by rw [commit_n]; exact HWh.out.n
                change Calls _ _ _ _ (DidP _ _ _ _ _ (.int .i64 (P.commit newS).1) (P.commit newS).2) at hcom
                generalize P.commit newS = R at hcom hcr hcn
                obtain ⟨r, P6⟩ := R
                simp only at hcom hcr hcn
                have HCom := hid hcom
                have HCr := hid hcr
                have HND := hid hnd
                have HCN := hid hcn
                clear hcom hcr hnd hcn
                go_wp2_with fail
                refine HCom.out.mono ?_
                rintro e w6 ⟨rfl, all6, hp6, hk6, hn6⟩
                have HP6 := hid hp6
                have HB6 := hid (DidP.below HP.out hk6 HBL.out (Nat.le_refl _))
                have HPH6 := hid (HPH.out.keep hk6 HSH.out)
                have HPN6 := hid (HPN.out.keep hk6 HSN.out)
                clear hp6 hk6 hn6 HCom HP HPH HPN HSH HSN HBL HWh
                obtain ⟨own6, hd6, hy6⟩ := HP6.out.disk
                have HCa := hid (crash_all hd6 a4 l4 c4 ks (HK.out.later HB6.out))
                have HY6 := hid (hy6.crash ks)
                clear hd6 hy6
                go_wp2_with fail
                refine HCa.out.mono ?_
                rintro e w7 ⟨ob, own7, rfl, hd7, hb7⟩
                have HD7 := hid hd7
                have HB7 := hid (HB6.out.trans (hb7.mono HB6.out.size))
                have HPH7 := hid (HPH6.out.keep (Kept.ofBelow hb7 []) (by simp))
                have HPN7 := hid (HPN6.out.keep (Kept.ofBelow hb7 []) (by simp))
                have HS67 := hid hb7.size
                have HD7b := hid (disk_base hd7 HB6.out.size)
                have HSH7 : Hid (∀ g, hv.ownBlock = some g → g ∉ own7) := fun g hg hm => by have h1 := (HPH6.out.lt g hg).2; have h2 := (hd7.lt g hm).1; omega
                have HSN7 : Hid (∀ g, u14.ownBlock = some g → g ∉ own7) := fun g hg hm => by have h1 := (HPN6.out.lt g hg).2; have h2 := (hd7.lt g hm).1; omega
                clear hd7 hb7 HCa HP6
                have HOK : Hid ((P6.D.crash ks).ok) := ⟨rfl, rfl⟩
                have HN30 : Hid ((P6.D.crash ks).n = 30) := HCN.out
                generalize P6.D.crash ks = C at *
                rcases HCr.out with ⟨hr1, hr2⟩ | ⟨hr0, hr1, hr2⟩
                · have HO := hid (open_yes HD7b.out HY6.out (by rw [HN30.out]; omega) HOK.out.g hr1 (by decide))
                  have HH := hid hr2
                  clear hr1 hr2
                  go_wp2_with fail
                  refine HO.out.mono ?_
                  rintro e w8 ⟨qb, gs8, mb8, rfl, ⟨hq1, hq2, hq3⟩, hp8, hb8⟩
                  have HP8 := hid hp8
                  have HB8 := hid (HB7.out.trans (hb8.mono HB7.out.size))
                  have HPG8 := hid (HPN7.out.keep (Kept.ofBelow hb8 []) (by simp))
                  have HSP8 : Hid (∀ g, (u14).ownBlock = some g → g ∉ qb :: gs8 :: mb8 :: own7) := fun g hg hm => by
                    have h1 := (HPN7.out.lt g hg).2
                    simp only [List.mem_cons] at hm
                    rcases hm with h | h | h | h
                    · omega
                    · omega
                    · omega
                    · exact HSN7.out g hg h
                  clear hp8 hb8 hq1 hq2 hq3 HO
                  have h3 := hid (gen_any HP8.out)
                  have h4 := hid (rootc_any HP8.out)
                  have HHo := hid (holds_any HP8.out (anew_start C HN30.out HOK.out now 3 newS) HPG8.out HSP8.out (HND.out) HH.out (by omega))
                  unfold newS at h4
                  go_wp2_with (first | (go_at_call 11; refine (no_any _ _).mono ?_; rintro e wd ⟨rfl, rfl⟩) | (go_at_call 24; refine h3.out.mono ?_; rintro e we ⟨rfl, rfl⟩) | (go_at_call 25; refine h4.out.mono ?_; rintro e wf ⟨rfl, rfl⟩))
                  refine HHo.out.mono ?_
                  rintro e w9 ⟨rfl, hb9⟩
                  have HB9 := hid (HB8.out.trans hb9)
                  clear hb9
                  go_wp2_with fail
                  go_ret
                  exact ⟨rfl, HB9.out⟩
                · have hr0' : (r != 0) = true := by rw [bne_iff_ne]; exact hr0
                  have HO := hid (open_yes HD7b.out HY6.out (by rw [HN30.out]; omega) HOK.out.g hr1 (by decide))
                  have HH := hid hr2
                  clear hr1 hr2
                  go_wp2_with fail
                  refine HO.out.mono ?_
                  rintro e w8 ⟨qb, gs8, mb8, rfl, ⟨hq1, hq2, hq3⟩, hp8, hb8⟩
                  have HP8 := hid hp8
                  have HB8 := hid (HB7.out.trans (hb8.mono HB7.out.size))
                  have HPG8 := hid (HPH7.out.keep (Kept.ofBelow hb8 []) (by simp))
                  have HSP8 : Hid (∀ g, (hv).ownBlock = some g → g ∉ qb :: gs8 :: mb8 :: own7) := fun g hg hm => by
                    have h1 := (HPH7.out.lt g hg).2
                    simp only [List.mem_cons] at hm
                    rcases hm with h | h | h | h
                    · omega
                    · omega
                    · omega
                    · exact HSH7.out g hg h
                  clear hp8 hb8 hq1 hq2 hq3 HO
                  have h3 := hid (gen_any HP8.out)
                  have h4 := hid (rootc_any HP8.out)
                  have HHo := hid (holds_any HP8.out (anew_start C HN30.out HOK.out (pagesOf ss m) 2 oldS) HPG8.out HSP8.out (pages_nodup ss m) HH.out (by rw [pagesOf_length]; omega))
                  unfold oldS at h4
                  go_wp2_with (first | (go_at_call 11; refine (no_any _ _).mono ?_; rintro e wd ⟨rfl, rfl⟩) | (go_at_call 24; refine h3.out.mono ?_; rintro e we ⟨rfl, rfl⟩) | (go_at_call 25; refine h4.out.mono ?_; rintro e wf ⟨rfl, rfl⟩))
                  refine HHo.out.mono ?_
                  rintro e w9 ⟨rfl, hb9⟩
                  have HB9 := hid (HB8.out.trans hb9)
                  clear hb9
                  go_wp2_with fail
                  go_ret
                  exact ⟨rfl, HB9.out⟩
      · have h20' : (20 : Int) < l2 := by omega
        go_wp2_with (first | (go_at_call 12; refine (alive_any _).mono ?_; rintro e w2 ⟨rfl, hb2⟩; have HP2 := hid (HP1.out.later hb2); have HPG2 := hid (HPG1.out.keep (Kept.ofBelow hb2 []) (by simp)); have HB2 := hid (HB1.out.trans (hb2.mono HB1.out.size)); clear hb2 HP1 HPG1 HB1))
        go_ret
        exact ⟨rfl, HB2.out⟩
    · have h12' : (12 : Int) < l1 := by omega
      go_wp2_with (first | (go_at_call 12; refine (alive_any _).mono ?_; rintro e w2 ⟨rfl, hb2⟩; have HP2 := hid (HP1.out.later hb2); have HPG2 := hid (HPG1.out.keep (Kept.ofBelow hb2 []) (by simp)); have HB2 := hid (HB1.out.trans (hb2.mono HB1.out.size)); clear hb2 HP1 HPG1 HB1))
      go_ret
      exact ⟨rfl, HB2.out⟩
  · have h200' : (200 : Int) < l4 := by omega
    go_wp2_with (first | (go_at_call 12; refine (alive_any _).mono ?_; rintro e w2 ⟨rfl, hb2⟩; have HP2 := hid (HP1.out.later hb2); have HPG2 := hid (HPG1.out.keep (Kept.ofBelow hb2 []) (by simp)); have HB2 := hid (HB1.out.trans (hb2.mono HB1.out.size)); clear hb2 HP1 HPG1 HB1))
    go_ret
    exact ⟨rfl, HB2.out⟩

theorem own : ownKnob Try.prog.godebug = none := by kernel_rfl
theorem laidOut : laidOutB Try.prog = true := by kernel_rfl

set_option maxRecDepth 100000 in
theorem lifted (os : Os) (started : os.Started) (H : Type) (enc : TypeId × Value → H) :
    ReturnsInHanded {} Try.checked os 4 .any (Rows.pagerWholeSpec.pre6 enc Try.prog Try.f4 Rows.pagerWholeRow.domain false) (Rows.pagerWholeSpec.post enc Try.prog Try.f4 false true false false) := by
  refine returnsInHanded_of_change (C := Try.checked) own started (by kernel_rfl) Try.func4
    (ChangeSpec.witness6 (enc := enc) (C := Try.checked) false ⟨#[], #[.slice none 0 0, .slice none 0 0, .slice none 0 0, .int .i64 0, .slice none 0 0], []⟩ 8 (by kernel_rfl) (by kernel_rfl) (by kernel_rfl) (by kernel_rfl)) ?_
  intro W base args ds gs before hval0 hW hcnd _
  have hval : ∀ (j : Nat) t v, Try.f4.params[j]? = some t → args[j]? = some v → Value.okWide Try.prog W .any base t v := hval0
  have hW' := hW
  obtain ⟨p, q, hA0, hV, rfl, hfz, hnd⟩ := hW
  have hA : DataW.TrodAll enc Try.prog W 0 (fun _ => true) true Try.f4.params.toList args.toList ds p := hA0
  rw [Try.params4] at hA hval
  obtain ⟨v0, vs0, d0, ds0, p0, q0, hargs, rfl, rfl, h0, r0⟩ := trodAll_cons hA
  obtain ⟨v1, vs1, d1, ds1, p1, q1, rfl, rfl, rfl, h1, r1⟩ := trodAll_cons r0
  obtain ⟨v2, vs2, d2, ds2, p2, q2, rfl, rfl, rfl, h2, r2⟩ := trodAll_cons r1
  obtain ⟨v3, vs3, d3, ds3, p3, q3, rfl, rfl, rfl, h3, r3⟩ := trodAll_cons r2
  obtain ⟨v4, vs4, d4, ds4, p4, q4, rfl, rfl, rfl, h4, r4⟩ := trodAll_cons r3
  obtain ⟨rfl, rfl, rfl⟩ := trodAll_nil r4
  obtain rfl : args = #[v0, v1, v2, v3, v4] := by cases args; simp_all
  obtain ⟨rfl, rfl⟩ := trodVars_none hV
  obtain ⟨a0, len0, cap0, rfl⟩ := okWide_slice Try.underlying56 (hval 0 56 v0 rfl rfl)
  have lt0 : ∀ x ∈ p0, x.block < W.heap.size := by obtain ⟨m, hm⟩ := h0; exact DataW.trod_lt m _ _ _ hm
  obtain ⟨l0, hl0⟩ : ∃ l, StrsOk W a0 len0 l := by obtain ⟨fuel, hf⟩ := h0; exact open_strsOk hf
  obtain ⟨a1, len1, cap1, rfl⟩ := okWide_slice Try.underlying56 (hval 1 56 v1 rfl rfl)
  have lt1 : ∀ x ∈ p1, x.block < W.heap.size := by obtain ⟨m, hm⟩ := h1; exact DataW.trod_lt m _ _ _ hm
  obtain ⟨l1, hl1⟩ : ∃ l, StrsOk W a1 len1 l := by obtain ⟨fuel, hf⟩ := h1; exact open_strsOk hf
  obtain ⟨a2, len2, cap2, rfl⟩ := okWide_slice Try.underlying51 (hval 2 51 v2 rfl rfl)
  have lt2 : ∀ x ∈ p2, x.block < W.heap.size := by obtain ⟨m, hm⟩ := h2; exact DataW.trod_lt m _ _ _ hm
  obtain ⟨l2, hl2⟩ : ∃ l, IntsOk W a2 len2 l := by obtain ⟨fuel, hf⟩ := h2; exact open_intsOk hf
  obtain ⟨a3, rfl, rfl, rfl, w3⟩ := open_int Try.underlying3 (hval 3 3 v3 rfl rfl) h3
  obtain ⟨a4, len4, cap4, rfl⟩ := okWide_slice Try.underlying40 (hval 4 40 v4 rfl rfl)
  have lt4 : ∀ x ∈ p4, x.block < W.heap.size := by obtain ⟨m, hm⟩ := h4; exact DataW.trod_lt m _ _ _ hm
  obtain ⟨l4, hl4⟩ : ∃ l, KeepsOk W a4 len4 l := by obtain ⟨fuel, hf⟩ := h4; exact open_keeps hf
  clear hA0 hval0
  refine (walk hl0 hl1 hl2 hl4).mono fun e W' ⟨he, bel⟩ => ?_
  subst he
  exact ⟨_, rfl, _, _, _, [], _, [], hW', trodAll_mk1 (shut_bool Try.underlying4 _), (trodAll_cons_mk (Below.trod laidOut (by kernel_rfl) (of_decide_eq_true (by kernel_rfl)) h0 bel lt0) (trodAll_cons_mk (Below.trod laidOut (by kernel_rfl) (of_decide_eq_true (by kernel_rfl)) h1 bel lt1) (trodAll_cons_mk (Below.trod laidOut (by kernel_rfl) (of_decide_eq_true (by kernel_rfl)) h2 bel lt2) (trodAll_cons_mk (shut_int Try.underlying3 w3) (trodAll_cons_mk (Below.trod laidOut (by kernel_rfl) (of_decide_eq_true (by kernel_rfl)) h4 bel lt4) trodAll_mk0))))), rfl, bel.frame _, fun h => by cases h⟩

theorem over : Rows.pagerWholeRow.holds Try.pinned (OpenSpec.ofChange Rows.pagerWholeSpec) :=
  OpenClaim.holds_of_wide 4 Try.f4 rfl rfl rfl rfl rfl rfl rfl ⟨rfl, rfl, rfl, rfl, rfl⟩ rfl rfl rfl rfl rfl (by kernel_rfl) Try.func4 (by kernel_rfl)
    (of_decide_eq_true (by kernel_rfl)) (by unfold Func.isWrapper; first | (rw [if_pos (by decide +kernel)]; kernel_rfl) | (rw [if_neg (by decide +kernel)]; exact ⟨rfl, rfl⟩))
    (fun os started H enc _ => lifted os started H enc)
end Go.Proofs.Ytambgimfbdecpaa.pagerWhole
namespace Go.Proofs.Ytambgimfbdecpaa
/-- THE STATEMENT. -/
theorem pagerWhole_holds : Rows.PagerWholeSaid := pagerWhole.over
#print axioms pagerWhole_holds
end Go.Proofs.Ytambgimfbdecpaa
