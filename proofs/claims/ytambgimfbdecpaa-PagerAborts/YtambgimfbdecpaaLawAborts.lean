/- Proved here: what is taken back was never done: as many pages are free as ahead, each that was there holds what it held, and may be dropped again (PagerAborts returns true for every input, and leaves its arguments as they were). No condition. -/
import Derived.Test.YtambgimfbdecpaaRows
import Derived.Test.YtambgimfbdecpaaGAborts
import Derived.ProofKit
import Derived.ShutString
import Derived.ChangeOld
import Derived.Below
namespace Go.Proofs.Ytambgimfbdecpaa.pagerAborts
open Go.ChangeShapes Go.WideShapes Go.ChangeAt Go.RowKit
set_option linter.unusedVariables false

set_option maxRecDepth 100000 in
set_option maxHeartbeats 8000000 in
theorem walk {w : World} {a0 : Option Addr} {l0 c0 : Nat} {ss : List ByteArray} {a1 : Option Addr} {l1 c1 : Nat} {ts : List ByteArray} {a2 : Option Addr} {l2 c2 : Nat} {zs : List Int}
    (hS : StrsOk w a0 l0 ss) (hT : StrsOk w a1 l1 ts) (hZ : IntsOk w a2 l2 zs) :
    Calls Try.prog 6 #[.slice a0 l0 c0, .slice a1 l1 c1, .slice a2 l2 c2] w fun e w' => e = .returned (.bool true) ∧ Below w.heap.size w w' := by
  have HT := hid hT
  have HZ := hid hZ
  have HBG := hid (begun_any w 30 (by omega) (by omega) a0 l0 c0 ss hS)
  have hl1 := hT.1
  have hl2 := hZ.1
  have hm1 := hT.2.1
  have hm2 := hZ.2.1
  unfold maxLen at hm1 hm2
  clear hS hT hZ
  go_enter Try.func6, Try.ntmps6
  go_wp2_with fail
  refine HBG.out.mono ?_
  rintro e w1 ⟨db, b, hv, all1, P1, rfl, hp1, hpg1, hsp1, hbg1, hb1⟩
  have HP1 := hid hp1
  have HPG1 := hid hpg1
  have HSP1 := hid hsp1
  have HBg1 := hid hbg1
  have HB1 := hid hb1
  clear hp1 hpg1 hsp1 hbg1 hb1 HBG
  obtain ⟨m, hm⟩ : ∃ m, m = min ss.length 12 := ⟨_, rfl⟩
  rw [← hm] at HPG1 HBg1
  have hm12 : m ≤ 12 := by omega
  clear hm
  by_cases h12 : l1 ≤ 12
  · have h12' : ¬ (12 : Int) < l1 := by omega
    by_cases h20 : l2 ≤ 20
    · have h20' : ¬ (20 : Int) < l2 := by omega
      go_wp2_with (first | (go_at_call 12; refine (alive_any _).mono ?_; rintro e w2 ⟨rfl, hb2⟩; have HP2 := hid (HP1.out.later hb2); have HPG2 := hid (HPG1.out.keep (Kept.ofBelow hb2 []) (by simp)); have HB2 := hid (HB1.out.trans (hb2.mono HB1.out.size)); clear hb2 HP1 HPG1 HB1))
      have hF := hid (free_any HP2.out)
      rw [show cntFree P1.st = 30 - (m + 2) by rw [HBg1.out.st, roomSt_cnt 1 30 (m + 2) (by omega)]] at hF
      go_wp2_with (first | (go_at_call 26; refine hF.out.mono ?_; rintro e wd ⟨rfl, rfl⟩))
      have HMid0 := hid (HBg1.out.mid (by omega))
      clear hF HBg1
      go_loopw [44] (fun q wr => ∃ k : Nat, k ≤ l1 ∧ q = .int .i64 k ∧ ∃ P all, Pgr wr w.heap.size b db all P ∧ Mid 30 m ss k P ∧ PgsAt wr w.heap.size hv (pagesOf ss m) ∧ (∀ g, hv.ownBlock = some g → g ∉ all) ∧ Below w.heap.size w wr) (fun q _ => l1 - (intOf q).toNat)
      case atStart => exact ⟨0, by omega, rfl, _, _, HP2.out, HMid0.out, HPG2.out, HSP1.out, HB2.out⟩
      case round =>
        obtain ⟨k, hkl, rfl, P, all, hP, hMid, hPg, hSep, hBel⟩ := hrel
        have HP := hid hP
        have HM := hid hMid
        have HPG := hid hPg
        have HSP := hid hSep
        have HBL := hid hBel
        clear hP hMid hPg hSep hBel HP2 HPG2 HB2 HSP1 HMid0
        by_cases hlt : k < l1
        · have hlt' : (k : Int) < l1 := by omega
          obtain ⟨ab, ao, ha, hc, hsz⟩ := (HT.out.later HBL.out).get k (by omega)
          subst ha
          generalize ts[k]'(by omega) = s at hc hsz
          have HSz := hid hsz
          unfold maxLen at hsz
          by_cases h492 : s.size ≤ 492
          · have h492' : ¬ (492 : Int) < s.size := by omega
            have hput := put_all HP.out (by have := HM.out.s; omega) (by have := HM.out.w; omega) 1 (s) (HSz.out)
            have HM2 := hid (HM.out.put (s) (h492))
            have HPut := hid hput
            clear hput h492
            generalize P.put 1 (s) = X at HPut HM2
            obtain ⟨⟨x, y⟩, P'⟩ := X
            go_wp2_with fail
            refine HPut.out.mono ?_
            rintro e w5 ⟨rfl, all5, hp5, hk5, hn5⟩
            have HP5 := hid hp5
            have HB5 := hid (DidP.below HP.out hk5 HBL.out (Nat.le_refl _))
            have HPG5 := hid (HPG.out.keep hk5 HSP.out)
            have HSP5 : Hid (∀ g, hv.ownBlock = some g → g ∉ all5) := fun g hg hm => by
              rcases hn5 g hm with h | h
              · exact HSP.out g hg h
              · have := (HPG.out.lt g hg).2; omega
            clear hp5 hk5 hn5
            go_wp2_with fail
            go_roundw
            case rel => exact ⟨k + 1, by omega, by go_num, P', all5, HP5.out, HM2.out, HPG5.out, HSP5.out, HB5.out⟩
            case measure => simp [intOf]; omega
          · have h492' : (492 : Int) < s.size := by omega
            have hput := put_all HP.out (by have := HM.out.s; omega) (by have := HM.out.w; omega) 1 (s.extract 0 492) (by rw [ByteArray.size_extract]; unfold maxLen; omega)
            have HM2 := hid (HM.out.put (s.extract 0 492) (by rw [ByteArray.size_extract]; omega))
            have HPut := hid hput
            clear hput h492
            generalize P.put 1 (s.extract 0 492) = X at HPut HM2
            obtain ⟨⟨x, y⟩, P'⟩ := X
            go_wp2_with fail
            refine HPut.out.mono ?_
            rintro e w5 ⟨rfl, all5, hp5, hk5, hn5⟩
            have HP5 := hid hp5
            have HB5 := hid (DidP.below HP.out hk5 HBL.out (Nat.le_refl _))
            have HPG5 := hid (HPG.out.keep hk5 HSP.out)
            have HSP5 : Hid (∀ g, hv.ownBlock = some g → g ∉ all5) := fun g hg hm => by
              rcases hn5 g hm with h | h
              · exact HSP.out g hg h
              · have := (HPG.out.lt g hg).2; omega
            clear hp5 hk5 hn5
            go_wp2_with fail
            go_roundw
            case rel => exact ⟨k + 1, by omega, by go_num, P', all5, HP5.out, HM2.out, HPG5.out, HSP5.out, HB5.out⟩
            case measure => simp [intOf]; omega
        · obtain rfl : k = l1 := by omega
          have hlt' : ¬ (k : Int) < k := by omega
          go_wp2_with fail
          go_loopw [58] (fun q wr => ∃ j : Nat, j ≤ l2 ∧ q = .int .i64 j ∧ ∃ P all, Pgr wr w.heap.size b db all P ∧ Mid 30 m ss k P ∧ PgsAt wr w.heap.size hv (pagesOf ss m) ∧ (∀ g, hv.ownBlock = some g → g ∉ all) ∧ Below w.heap.size w wr) (fun q _ => l2 - (intOf q).toNat)
          case atStart => exact ⟨0, by omega, rfl, _, _, HP.out, HM.out, HPG.out, HSP.out, HBL.out⟩
          case round =>
            clear HP HM HPG HSP HBL
            obtain ⟨j, hjl, rfl, P, all, hP, hMid, hPg, hSep, hBel⟩ := hrel
            have HP := hid hP
            have HM := hid hMid
            have HPG := hid hPg
            have HSP := hid hSep
            have HBL := hid hBel
            clear hP hMid hPg hSep hBel
            by_cases hjt : j < l2
            · have hjt' : (j : Int) < l2 := by omega
              obtain ⟨ab, ao, ha, hc⟩ := (HZ.out.later HBL.out).get j (by omega)
              subst ha
              generalize zs[j]'(by omega) = z at hc
              have hdr := drop_all HP.out z
              have HM2 := hid (HM.out.drop z)
              have HDr := hid hdr
              clear hdr
              generalize P.drop z = X at HDr HM2
              obtain ⟨x, P'⟩ := X
              go_wp2_with fail
              refine HDr.out.mono ?_
              rintro e w5 ⟨rfl, all5, hp5, hk5, hn5⟩
              have HP5 := hid hp5
              have HB5 := hid (DidP.below HP.out hk5 HBL.out (Nat.le_refl _))
              have HPG5 := hid (HPG.out.keep hk5 HSP.out)
              have HSP5 : Hid (∀ g, hv.ownBlock = some g → g ∉ all5) := fun g hg hm => by
                rcases hn5 g hm with h | h
                · exact HSP.out g hg h
                · have := (HPG.out.lt g hg).2; omega
              clear hp5 hk5 hn5
              go_wp2_with fail
              go_roundw
              case rel => exact ⟨j + 1, by omega, by go_num, P', all5, HP5.out, HM2.out, HPG5.out, HSP5.out, HB5.out⟩
              case measure => simp [intOf]; omega
            · obtain rfl : j = l2 := by omega
              have hjt' : ¬ (j : Int) < j := by omega
              have HDr0 := hid (HM.out.abort (by omega) (by omega))
              have HAb := hid (abort_all HP.out)
              go_wp2_with fail
              refine HAb.out.mono ?_
              rintro e w5 ⟨rfl, all5, hp5, hk5, hn5⟩
              have HP5 := hid hp5
              have HB5 := hid (DidP.below HP.out hk5 HBL.out (Nat.le_refl _))
              have HPG5 := hid (HPG.out.keep hk5 HSP.out)
              have HSP5 : Hid (∀ g, hv.ownBlock = some g → g ∉ all5) := fun g hg hm => by
                rcases hn5 g hm with h | h
                · exact HSP.out g hg h
                · have := (HPG.out.lt g hg).2; omega
              clear hp5 hk5 hn5 HAb HP HM HPG HSP HBL
              generalize P.abort = PA at HP5 HDr0
              have h1 := hid (free_any HP5.out)
              have h2 := hid (gen_any HP5.out)
              have h3 := hid (rootc_any HP5.out)
              rw [show cntFree PA.st = 30 - (m + 2) by rw [HDr0.out.st, ← stK_zero (3, 0) 30 m (by omega), roomSt_cnt 1 30 (m + 2) (by omega)]] at h1
              rw [HDr0.out.gen] at h2
              rw [HDr0.out.root] at h3
              obtain ⟨hva, hvc, hsh⟩ := HPG5.out.shape
              subst hsh
              rw [pagesOf_length] at *
              go_wp2_with (first | (go_at_call 26; refine h1.out.mono ?_; rintro e wd ⟨rfl, rfl⟩) | (go_at_call 24; refine h2.out.mono ?_; rintro e we ⟨rfl, rfl⟩) | (go_at_call 25; refine h3.out.mono ?_; rintro e wf ⟨rfl, rfl⟩))
              go_loopw [84] (fun q wr => ∃ j : Nat, j ≤ m ∧ q = .int .i64 j ∧ ∃ P all, Pgr wr w.heap.size b db all P ∧ Dr 30 m ss j P ∧ PgsAt wr w.heap.size (.slice hva m hvc) (pagesOf ss m) ∧ (∀ g, (Value.slice hva m hvc).ownBlock = some g → g ∉ all) ∧ Below w.heap.size w wr) (fun q _ => m - (intOf q).toNat)
              case atStart => exact ⟨0, by omega, rfl, _, _, HP5.out, HDr0.out, HPG5.out, HSP5.out, HB5.out⟩
              case round =>
                clear HP5 HDr0 HPG5 HSP5 HB5 h1 h2 h3
                obtain ⟨i, him, rfl, P, all, hP, hDr, hPg, hSep, hBel⟩ := hrel
                have HP := hid hP
                have HDr := hid hDr
                have HPG := hid hPg
                have HSP := hid hSep
                have HBL := hid hBel
                clear hP hDr hPg hSep hBel
                by_cases hit : i < m
                · have hit' : (i : Int) < m := by omega
                  obtain ⟨g, c, hsh, hob, hc1, hc2⟩ := HPG.out.get i (by rw [pagesOf_length]; exact hit)
                  simp only [pagesOf_length, Value.slice.injEq, true_and] at hsh
                  obtain ⟨rfl, rfl⟩ := hsh
                  rw [pagesOf_get] at hc1 hc2
                  simp only at hc1 hc2
                  have HRd := hid (HDr.out.read hit (by omega) (by omega))
                  obtain ⟨hr1, hr2⟩ := HDr.out.drop hit (by omega)
                  have HP0 := hid (HP.out.keep (Kept.alloc [] wr (.cells #[.int .i64 ((i : Int) + 2), .string (conAt ss i)] 65)) (by simp))
                  have HB0 := hid (HBL.out.alloc HBL.out.size (.cells #[.int .i64 ((i : Int) + 2), .string (conAt ss i)] 65))
                  have HPG0 := hid (HPG.out.keep (Kept.alloc [] wr (.cells #[.int .i64 ((i : Int) + 2), .string (conAt ss i)] 65)) (by simp))
                  have HNA : Hid (wr.heap.size ∉ all) := fun h => by have := (HP.out.lt _ h).2; omega
                  have hx0 : (wr.alloc (.cells #[.int .i64 ((i : Int) + 2), .string (conAt ss i)] 65)).cell? ⟨wr.heap.size, 0, none⟩ = some (.int .i64 ((i : Int) + 2)) := by simp
                  have hx1 : (wr.alloc (.cells #[.int .i64 ((i : Int) + 2), .string (conAt ss i)] 65)).cell? ⟨wr.heap.size, 1, none⟩ = some (.string (conAt ss i)) := by simp
                  have HX0 := hid hx0
                  have HX1 := hid hx1
                  have hrd := read_all HP0.out ((i + 2 : Nat) : Int)
                  rw [HRd.out] at hrd
                  have hdp := hr1
                  have HR2 := hid hr2
                  have e2 : ((i + 2 : Nat) : Int) = (i : Int) + 2 := by omega
                  rw [e2] at hrd hdp
                  have HRD := hid hrd
                  have HDP := hid hdp
                  clear hx0 hx1 hrd hr1 hr2 hdp HRd
                  go_wp2_with fail
                  refine HRD.out.mono ?_
                  rintro e w5 ⟨rfl, all5, hp5, hk5, hn5⟩
                  have HP5 := hid hp5
                  have HB5 := hid (DidP.below HP0.out hk5 HB0.out (Nat.le_refl _))
                  have HPG5 := hid (HPG0.out.keep hk5 HSP.out)
                  have HSP5 : Hid (∀ g', (Value.slice (some ⟨g, 0, none⟩) m hvc).ownBlock = some g' → g' ∉ all5) := fun g' hg hm => by
                    rcases hn5 g' hm with h | h
                    · exact HSP.out g' hg h
                    · have := (HPG0.out.lt g' hg).2; omega
                  have hy0 : w5.cell? ⟨wr.heap.size, 0, none⟩ = some (.int .i64 ((i : Int) + 2)) := hk5.cell HX0.out (by simpa using HNA.out)
                  have hy1 : w5.cell? ⟨wr.heap.size, 1, none⟩ = some (.string (conAt ss i)) := hk5.cell HX1.out (by simpa using HNA.out)
                  clear hp5 hk5 hn5 HX0 HX1 HNA HP0 HB0 HPG0 HRD
                  have hdr := drop_all HP5.out ((i : Int) + 2)
                  rw [HDP.out] at hdr
                  have HDrp := hid hdr
                  clear hdr
                  unfold RdV.val
                  go_wp2_with (first | (go_at_call 11; refine (no_any _ _).mono ?_; rintro e wd ⟨rfl, rfl⟩))
                  refine HDrp.out.mono ?_
                  rintro e w6 ⟨rfl, all6, hp6, hk6, hn6⟩
                  have HP6 := hid hp6
                  have HB6 := hid (DidP.below HP5.out hk6 HB5.out (Nat.le_refl _))
                  have HPG6 := hid (HPG5.out.keep hk6 HSP5.out)
                  have HSP6 : Hid (∀ g', (Value.slice (some ⟨g, 0, none⟩) m hvc).ownBlock = some g' → g' ∉ all6) := fun g' hg hm => by
                    rcases hn6 g' hm with h | h
                    · exact HSP5.out g' hg h
                    · have := (HPG5.out.lt g' hg).2; omega
                  clear hp6 hk6 hn6 hy0 hy1
                  go_wp2_with (first | (go_at_call 11; refine (no_any _ _).mono ?_; rintro e wd ⟨rfl, rfl⟩))
                  go_roundw
                  case rel => exact ⟨i + 1, by omega, by go_num, _, all6, HP6.out, (by have := HR2.out; rw [e2] at this; exact this), HPG6.out, HSP6.out, HB6.out⟩
                  case measure => simp [intOf]; omega
                · obtain rfl : i = m := by omega
                  have hit' : ¬ (i : Int) < i := by omega
                  have hcom := commit_all HP.out (by have := HDr.out.s; omega) ⟨#[122]⟩ (by unfold maxLen; decide)
                  obtain ⟨hr1, hr2⟩ := HDr.out.commit (by omega) (by omega)
                  rw [hr1] at hcom
                  generalize (P.commit ⟨#[122]⟩).2 = P6 at hcom hr2
                  have HCom := hid hcom
                  have HR6 := hid hr2
                  clear hcom hr1 hr2
                  go_wp2_with fail
                  refine HCom.out.mono ?_
                  rintro e w6 ⟨rfl, all6, hp6, hk6, hn6⟩
                  have HP6 := hid hp6
                  have HB6 := hid (DidP.below HP.out hk6 HBL.out (Nat.le_refl _))
                  clear hp6 hk6 hn6
                  have h6 := hid (free_any HP6.out)
                  rw [HR6.out] at h6
                  have he : ((28 : Int) == ((28 - i : Nat) : Int) + (i : Int)) = true := by rw [beq_iff_eq]; omega
                  go_wp2_with (first | (go_at_call 11; refine (no_any _ _).mono ?_; rintro e wd ⟨rfl, rfl⟩) | (go_at_call 26; refine h6.out.mono ?_; rintro e we ⟨rfl, rfl⟩))
                  go_ret
                  exact ⟨rfl, HB6.out⟩
    · have h20' : (20 : Int) < l2 := by omega
      go_wp2_with (first | (go_at_call 12; refine (alive_any _).mono ?_; rintro e w2 ⟨rfl, hb2⟩; have HP2 := hid (HP1.out.later hb2); have HPG2 := hid (HPG1.out.keep (Kept.ofBelow hb2 []) (by simp)); have HB2 := hid (HB1.out.trans (hb2.mono HB1.out.size)); clear hb2 HP1 HPG1 HB1))
      go_ret
      exact ⟨rfl, HB2.out⟩
  · have h12' : (12 : Int) < l1 := by omega
    go_wp2_with (first | (go_at_call 12; refine (alive_any _).mono ?_; rintro e w2 ⟨rfl, hb2⟩; have HP2 := hid (HP1.out.later hb2); have HPG2 := hid (HPG1.out.keep (Kept.ofBelow hb2 []) (by simp)); have HB2 := hid (HB1.out.trans (hb2.mono HB1.out.size)); clear hb2 HP1 HPG1 HB1))
    go_ret
    exact ⟨rfl, HB2.out⟩

theorem own : ownKnob Try.prog.godebug = none := by kernel_rfl
theorem laidOut : laidOutB Try.prog = true := by kernel_rfl

set_option maxRecDepth 100000 in
theorem lifted (os : Os) (started : os.Started) (H : Type) (enc : TypeId × Value → H) :
    ReturnsInHanded {} Try.checked os 6 .any (Rows.pagerAbortsSpec.pre6 enc Try.prog Try.f6 Rows.pagerAbortsRow.domain false) (Rows.pagerAbortsSpec.post enc Try.prog Try.f6 false true false false) := by
  refine returnsInHanded_of_change (C := Try.checked) own started (by kernel_rfl) Try.func6
    (ChangeSpec.witness6 (enc := enc) (C := Try.checked) false ⟨#[], #[.slice none 0 0, .slice none 0 0, .slice none 0 0], []⟩ 8 (by kernel_rfl) (by kernel_rfl) (by kernel_rfl) (by kernel_rfl)) ?_
  intro W base args ds gs before hval0 hW hcnd _
  have hval : ∀ (j : Nat) t v, Try.f6.params[j]? = some t → args[j]? = some v → Value.okWide Try.prog W .any base t v := hval0
  have hW' := hW
  obtain ⟨p, q, hA0, hV, rfl, hfz, hnd⟩ := hW
  have hA : DataW.TrodAll enc Try.prog W 0 (fun _ => true) true Try.f6.params.toList args.toList ds p := hA0
  rw [Try.params6] at hA hval
  obtain ⟨v0, vs0, d0, ds0, p0, q0, hargs, rfl, rfl, h0, r0⟩ := trodAll_cons hA
  obtain ⟨v1, vs1, d1, ds1, p1, q1, rfl, rfl, rfl, h1, r1⟩ := trodAll_cons r0
  obtain ⟨v2, vs2, d2, ds2, p2, q2, rfl, rfl, rfl, h2, r2⟩ := trodAll_cons r1
  obtain ⟨rfl, rfl, rfl⟩ := trodAll_nil r2
  obtain rfl : args = #[v0, v1, v2] := by cases args; simp_all
  obtain ⟨rfl, rfl⟩ := trodVars_none hV
  obtain ⟨a0, len0, cap0, rfl⟩ := okWide_slice Try.underlying56 (hval 0 56 v0 rfl rfl)
  have lt0 : ∀ x ∈ p0, x.block < W.heap.size := by obtain ⟨m, hm⟩ := h0; exact DataW.trod_lt m _ _ _ hm
  obtain ⟨l0, hl0⟩ : ∃ l, StrsOk W a0 len0 l := by obtain ⟨fuel, hf⟩ := h0; exact open_strsOk hf
  obtain ⟨a1, len1, cap1, rfl⟩ := okWide_slice Try.underlying56 (hval 1 56 v1 rfl rfl)
  have lt1 : ∀ x ∈ p1, x.block < W.heap.size := by obtain ⟨m, hm⟩ := h1; exact DataW.trod_lt m _ _ _ hm
  obtain ⟨l1, hl1⟩ : ∃ l, StrsOk W a1 len1 l := by obtain ⟨fuel, hf⟩ := h1; exact open_strsOk hf
  obtain ⟨a2, len2, cap2, rfl⟩ := okWide_slice Try.underlying51 (hval 2 51 v2 rfl rfl)
  have lt2 : ∀ x ∈ p2, x.block < W.heap.size := by obtain ⟨m, hm⟩ := h2; exact DataW.trod_lt m _ _ _ hm
  obtain ⟨l2, hl2⟩ : ∃ l, IntsOk W a2 len2 l := by obtain ⟨fuel, hf⟩ := h2; exact open_intsOk hf
  clear hA0 hval0
  refine (walk hl0 hl1 hl2).mono fun e W' ⟨he, bel⟩ => ?_
  subst he
  exact ⟨_, rfl, _, _, _, [], _, [], hW', trodAll_mk1 (shut_bool Try.underlying4 _), (trodAll_cons_mk (Below.trod laidOut (by kernel_rfl) (of_decide_eq_true (by kernel_rfl)) h0 bel lt0) (trodAll_cons_mk (Below.trod laidOut (by kernel_rfl) (of_decide_eq_true (by kernel_rfl)) h1 bel lt1) (trodAll_cons_mk (Below.trod laidOut (by kernel_rfl) (of_decide_eq_true (by kernel_rfl)) h2 bel lt2) trodAll_mk0))), rfl, bel.frame _, fun h => by cases h⟩

theorem over : Rows.pagerAbortsRow.holds Try.pinned (OpenSpec.ofChange Rows.pagerAbortsSpec) :=
  OpenClaim.holds_of_wide 6 Try.f6 rfl rfl rfl rfl rfl rfl rfl ⟨rfl, rfl, rfl, rfl, rfl⟩ rfl rfl rfl rfl rfl (by kernel_rfl) Try.func6 (by kernel_rfl)
    (of_decide_eq_true (by kernel_rfl)) (by unfold Func.isWrapper; first | (rw [if_pos (by decide +kernel)]; kernel_rfl) | (rw [if_neg (by decide +kernel)]; exact ⟨rfl, rfl⟩))
    (fun os started H enc _ => lifted os started H enc)
end Go.Proofs.Ytambgimfbdecpaa.pagerAborts
namespace Go.Proofs.Ytambgimfbdecpaa
/-- THE STATEMENT. -/
theorem pagerAborts_holds : Rows.PagerAbortsSaid := pagerAborts.over
#print axioms pagerAborts_holds
end Go.Proofs.Ytambgimfbdecpaa
