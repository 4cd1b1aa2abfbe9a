/- Proved here: what is pinned holds what it held, whatever is dropped, put and committed, till it is not pinned any more; then its room comes back (PagerPinned returns true for every input, and leaves its arguments as they were). No condition. -/
import Derived.Test.YtambgimfbdecpaaRows
import Derived.Test.YtambgimfbdecpaaGPinned
import Derived.ProofKit
import Derived.ShutString
import Derived.ChangeOld
import Derived.Below
namespace Go.Proofs.Ytambgimfbdecpaa.pagerPinned
open Go.ChangeShapes Go.WideShapes Go.ChangeAt Go.RowKit
set_option linter.unusedVariables false

set_option maxRecDepth 100000 in
set_option maxHeartbeats 8000000 in
theorem walk {w : World} {a0 : Option Addr} {l0 c0 : Nat} {ss : List ByteArray} {a1 : Option Addr} {l1 c1 : Nat} {ts : List ByteArray} (hS : StrsOk w a0 l0 ss) (hT : StrsOk w a1 l1 ts) :
    Calls Try.prog 5 #[.slice a0 l0 c0, .slice a1 l1 c1] w fun e w' => e = .returned (.bool true) ∧ Below w.heap.size w w' := by
  have HT := hid hT
  have HBG := hid (begun_any w 20 (by omega) (by omega) a0 l0 c0 ss hS)
  have hl1 := hT.1
  have hm1 := hT.2.1
  unfold maxLen at hm1
  clear hS hT
  go_enter Try.func5, Try.ntmps5
  go_wp2_with fail
  refine HBG.out.mono ?_
  rintro e w1 ⟨db, b, hv, all1, P1, rfl, hp1, hpg1, hsp1, hbg1, hb1⟩
  have HP1 := hid hp1
  have HPG1 := hid hpg1
  have HSP1 := hid hsp1
  have HBg1 := hid hbg1
  have HB1 := hid hb1
  clear hp1 hpg1 hsp1 hbg1 hb1 HBG
  obtain ⟨m, hm⟩ : ∃ m, m = min ss.length 12 := ⟨_, rfl⟩
  rw [← hm] at HPG1 HBg1
  have hm12 : m ≤ 12 := by omega
  clear hm
  by_cases h20 : l1 ≤ 20
  · have h20' : ¬ (20 : Int) < l1 := by omega
    go_wp2_with (first | (go_at_call 12; refine (alive_any _).mono ?_; rintro e w2 ⟨rfl, hb2⟩; have HP2 := hid (HP1.out.later hb2); have HPG2 := hid (HPG1.out.keep (Kept.ofBelow hb2 []) (by simp)); have HB2 := hid (HB1.out.trans (hb2.mono HB1.out.size)); clear hb2 HP1 HPG1 HB1))
    have hF := hid (free_any HP2.out)
    rw [show cntFree P1.st = 20 - (m + 2) by rw [HBg1.out.st, roomSt_cnt 1 20 (m + 2) (by omega)]] at hF
    go_wp2_with (first | (go_at_call 26; refine hF.out.mono ?_; rintro e wd ⟨rfl, rfl⟩))
    have hpin := pin_all HP2.out (by rw [HBg1.out.pins]; decide) (by rw [HBg1.out.pm]; decide)
    rw [HBg1.out.gen] at hpin
    have HD0 := hid (HBg1.out.pin (by omega))
    generalize P1.pin = P3 at hpin HD0
    refine hpin.mono ?_
    rintro e w3 ⟨rfl, all3, hp3, hk3, hn3⟩
    have HP3 := hid hp3
    have HB3 := hid (DidP.below HP2.out hk3 HB2.out (Nat.le_refl _))
    have HPG3 := hid (HPG2.out.keep hk3 HSP1.out)
    have HSP3 : Hid (∀ g, hv.ownBlock = some g → g ∉ all3) := fun g hg hm => by
      rcases hn3 g hm with h | h
      · exact HSP1.out g hg h
      · have := (HPG2.out.lt g hg).2; omega
    clear hp3 hk3 hn3 hpin hF HBg1 HP2 HB2 HPG2 HSP1
    obtain ⟨hva, hvc, hsh⟩ := HPG3.out.shape
    rw [pagesOf_length] at hsh
    subst hsh
    go_wp2_with fail
    go_loopw [44] (fun q wr => ∃ j : Nat, j ≤ m ∧ q = .int .i64 j ∧ ∃ P all, Pgr wr w.heap.size b db all P ∧ Dp 20 m ss j P ∧ PgsAt wr w.heap.size (.slice hva m hvc) (pagesOf ss m) ∧ (∀ g, (Value.slice hva m hvc).ownBlock = some g → g ∉ all) ∧ Below w.heap.size w wr) (fun q _ => m - (intOf q).toNat)
    case atStart => exact ⟨0, by omega, rfl, _, _, HP3.out, HD0.out, HPG3.out, HSP3.out, HB3.out⟩
    case round =>
      clear HP3 HD0 HPG3 HSP3 HB3
      obtain ⟨i, him, rfl, P, all, hP, hDr, hPg, hSep, hBel⟩ := hrel
      have HP := hid hP
      have HDr := hid hDr
      have HPG := hid hPg
      have HSP := hid hSep
      have HBL := hid hBel
      clear hP hDr hPg hSep hBel
      by_cases hit : i < m
      · have hit' : (i : Int) < m := by omega
        obtain ⟨g, c, hsh, hob, hc1, hc2⟩ := HPG.out.get i (by rw [pagesOf_length]; exact hit)
        simp only [pagesOf_length, Value.slice.injEq, true_and] at hsh
        obtain ⟨rfl, rfl⟩ := hsh
        rw [pagesOf_get] at hc1 hc2
        simp only at hc1 hc2
        have HP0 := hid (HP.out.keep (Kept.alloc [] wr (.cells #[.int .i64 ((i : Int) + 2), .string (conAt ss i)] 65)) (by simp))
        have HB0 := hid (HBL.out.alloc HBL.out.size (.cells #[.int .i64 ((i : Int) + 2), .string (conAt ss i)] 65))
        have HPG0 := hid (HPG.out.keep (Kept.alloc [] wr (.cells #[.int .i64 ((i : Int) + 2), .string (conAt ss i)] 65)) (by simp))
        have HNA : Hid (wr.heap.size ∉ all) := fun h => by have := (HP.out.lt _ h).2; omega
        have hx1 : (wr.alloc (.cells #[.int .i64 ((i : Int) + 2), .string (conAt ss i)] 65)).cell? ⟨wr.heap.size, 1, none⟩ = some (.string (conAt ss i)) := by simp
        have HX1 := hid hx1
        clear hx1
        obtain ⟨hr1, hr2⟩ := HDr.out.drop hit (by omega)
        have e2 : ((i + 2 : Nat) : Int) = (i : Int) + 2 := by omega
        rw [e2] at hr1 hr2
        have hdr := drop_all HP0.out ((i : Int) + 2)
        rw [hr1] at hdr
        have HDrp := hid hdr
        have HR2 := hid hr2
        clear hdr hr1 hr2
        go_wp2_with fail
        refine HDrp.out.mono ?_
        rintro e w6 ⟨rfl, all6, hp6, hk6, hn6⟩
        have HP6 := hid hp6
        have HB6 := hid (DidP.below HP0.out hk6 HB0.out (Nat.le_refl _))
        have HPG6 := hid (HPG0.out.keep hk6 HSP.out)
        have HSP6 : Hid (∀ g', (Value.slice (some ⟨g, 0, none⟩) m hvc).ownBlock = some g' → g' ∉ all6) := fun g' hg hm => by
          rcases hn6 g' hm with h | h
          · exact HSP.out g' hg h
          · have := (HPG0.out.lt g' hg).2; omega
        clear hp6 hk6 hn6
        go_wp2_with (first | (go_at_call 11; refine (no_any _ _).mono ?_; rintro e wd ⟨rfl, rfl⟩))
        go_roundw
        case rel => exact ⟨i + 1, by omega, by go_num, _, all6, HP6.out, HR2.out, HPG6.out, HSP6.out, HB6.out⟩
        case measure => simp [intOf]; omega
      · obtain rfl : i = m := by omega
        have hit' : ¬ (i : Int) < i := by omega
        have HPn0 := hid HDr.out.pn
        go_wp2_with fail
        go_loopw [57, 12] (fun q c wr => ∃ j : Nat, j ≤ l1 ∧ q = .int .i64 j ∧ c = .int .i64 (min j (18 - i) : Nat) ∧ ∃ P all, Pgr wr w.heap.size b db all P ∧ Pn 20 i ss j (min j (18 - i)) P ∧ PgsAt wr w.heap.size (.slice hva i hvc) (pagesOf ss i) ∧ (∀ g, (Value.slice hva i hvc).ownBlock = some g → g ∉ all) ∧ Below w.heap.size w wr) (fun q _ _ => l1 - (intOf q).toNat)
        case atStart => exact ⟨0, by omega, rfl, by simp, _, _, HP.out, by simpa using HPn0.out, HPG.out, HSP.out, HBL.out⟩
        case round =>
          clear HP HDr HPG HSP HBL HPn0
          obtain ⟨j, hjl, rfl, rfl, P, all, hP, hPn, hPg, hSep, hBel⟩ := hrel
          have HP := hid hP
          have HPn := hid hPn
          have HPG := hid hPg
          have HSP := hid hSep
          have HBL := hid hBel
          clear hP hPn hPg hSep hBel
          by_cases hjt : j < l1
          · have hjt' : (j : Int) < l1 := by omega
            obtain ⟨ab, ao, ha, hc, hsz⟩ := (HT.out.later HBL.out).get j (by omega)
            subst ha
            generalize ts[j]'(by omega) = s at hc hsz
            have HSz := hid hsz
            unfold maxLen at hsz
            by_cases h492 : s.size ≤ 492
            · have h492' : ¬ (492 : Int) < s.size := by omega
              have hsx : (s).size ≤ 492 := h492
              have HSX := hid hsx
              have hput := put_all HP.out (by have := HPn.out.s; omega) (by rw [HPn.out.w]; decide) 1 (s) (HSz.out)
              by_cases hroom : j < 18 - i
              · have e1 : min j (18 - i) = j := by omega
                have e3 : min (j + 1) (18 - i) = j + 1 := by omega
                rw [e1] at HPn ⊢
                obtain ⟨hr1, hr2⟩ := HPn.out.putCommit HP.out.good (by omega) (by omega) (by omega) (s) ⟨#[120]⟩ hsx (by decide)
                have hv1 : (P.put 1 (s)).1 = (((i + 2 + j : Nat) : Int), 0) := by rw [HPn.out.put (by omega) (by omega) _ hsx]
                have hst : (P.put 1 (s)).2.D.steps + 3 ≤ 1000 := by rw [HPn.out.put (by omega) (by omega) _ hsx]; have := HPn.out.s; simp only [DS.wrote]; omega
                rw [hv1] at hput
                generalize P.put 1 (s) = X at hput hr1 hr2 hst
                obtain ⟨XX, P'⟩ := X
                simp only at hput hr1 hr2 hst
                have HPut := hid hput
                have HR1 := hid hr1
                have HR2 := hid hr2
                have HST := hid hst
                clear hput h492 hv1 hr1 hr2 hst hsx
                go_wp2_with fail
                refine HPut.out.mono ?_
                rintro e w5 ⟨rfl, all5, hp5, hk5, hn5⟩
                have HP5 := hid hp5
                have HB5 := hid (DidP.below HP.out hk5 HBL.out (Nat.le_refl _))
                have HPG5 := hid (HPG.out.keep hk5 HSP.out)
                have HSP5 : Hid (∀ g, (Value.slice hva i hvc).ownBlock = some g → g ∉ all5) := fun g hg hm => by
                  rcases hn5 g hm with h | h
                  · exact HSP.out g hg h
                  · have := (HPG.out.lt g hg).2; omega
                clear hp5 hk5 hn5
                have hwo := without_any HPG5.out ((i + 2 + j : Nat) : Int) (by rw [pagesOf_length]; omega)
                have HWo := hid hwo
                clear hwo
                have e2 : ((i + 2 + j : Nat) : Int) = (i : Int) + 2 + j := by omega
                rw [e2] at HWo
                go_wp2_with (first | (go_at_call 11; refine (no_any _ _).mono ?_; rintro e wd ⟨rfl, rfl⟩))
                refine HWo.out.mono ?_
                rintro e w6 ⟨v', rfl, hpg6, hb6⟩
                obtain ⟨ua, uc, hsh6⟩ := hpg6.shape
                rw [← e2, withoutL_all] at hsh6
                subst hsh6
                have HP6 := hid (HP5.out.later hb6)
                have HPG6 := hid (HPG5.out.keep (Kept.ofBelow hb6 []) (by simp))
                have HB6 := hid (HB5.out.trans (hb6.mono HB5.out.size))
                clear hpg6 hb6 HWo
                have hcom := commit_all HP6.out HST.out ⟨#[120]⟩ (by unfold maxLen; decide)
                rw [HR1.out] at hcom
                have HCom := hid hcom
                clear hcom
                go_wp2_with fail
                refine HCom.out.mono ?_
                rintro e w7 ⟨rfl, all7, hp7, hk7, hn7⟩
                have HP7 := hid hp7
                have HB7 := hid (DidP.below HP6.out hk7 HB6.out (Nat.le_refl _))
                have HPG7 := hid (HPG6.out.keep hk7 HSP5.out)
                have HSP7 : Hid (∀ g, (Value.slice hva i hvc).ownBlock = some g → g ∉ all7) := fun g hg hm => by
                  rcases hn7 g hm with h | h
                  · exact HSP5.out g hg h
                  · have := (HPG6.out.lt g hg).2; omega
                clear hp7 hk7 hn7
                go_wp2_with (first | (go_at_call 11; refine (no_any _ _).mono ?_; rintro e wd ⟨rfl, rfl⟩))
                go_roundw
                case rel => exact ⟨j + 1, by omega, by go_num, by rw [e3]; go_num, _, all7, HP7.out, by rw [e3]; exact HR2.out, HPG7.out, HSP7.out, HB7.out⟩
                case measure => simp [intOf]; omega
              · have e1 : min j (18 - i) = 18 - i := by omega
                have e3 : min (j + 1) (18 - i) = 18 - i := by omega
                rw [e1] at HPn ⊢
                rw [HPn.out.putFull (by omega) (by omega) _ hsx] at hput
                obtain ⟨hr1, hr2⟩ := HPn.out.commit HP.out.good (by omega) (by omega) (by omega) ⟨#[120]⟩ (by decide)
                have HPut := hid hput
                have HR1 := hid hr1
                have HR2 := hid hr2
                clear hput h492 hr1 hr2 hsx
                go_wp2_with fail
                refine HPut.out.mono ?_
                rintro e w5 ⟨rfl, all5, hp5, hk5, hn5⟩
                have HP5 := hid hp5
                have HB5 := hid (DidP.below HP.out hk5 HBL.out (Nat.le_refl _))
                have HPG5 := hid (HPG.out.keep hk5 HSP.out)
                have HSP5 : Hid (∀ g, (Value.slice hva i hvc).ownBlock = some g → g ∉ all5) := fun g hg hm => by
                  rcases hn5 g hm with h | h
                  · exact HSP.out g hg h
                  · have := (HPG.out.lt g hg).2; omega
                clear hp5 hk5 hn5
                have hcom := commit_all HP5.out (by have := HPn.out.s; omega) ⟨#[120]⟩ (by unfold maxLen; decide)
                rw [HR1.out] at hcom
                have HCom := hid hcom
                clear hcom
                go_wp2_with (first | (go_at_call 11; refine (no_any _ _).mono ?_; rintro e wd ⟨rfl, rfl⟩))
                refine HCom.out.mono ?_
                rintro e w7 ⟨rfl, all7, hp7, hk7, hn7⟩
                have HP7 := hid hp7
                have HB7 := hid (DidP.below HP5.out hk7 HB5.out (Nat.le_refl _))
                have HPG7 := hid (HPG5.out.keep hk7 HSP5.out)
                have HSP7 : Hid (∀ g, (Value.slice hva i hvc).ownBlock = some g → g ∉ all7) := fun g hg hm => by
                  rcases hn7 g hm with h | h
                  · exact HSP5.out g hg h
                  · have := (HPG5.out.lt g hg).2; omega
                clear hp7 hk7 hn7
                go_wp2_with (first | (go_at_call 11; refine (no_any _ _).mono ?_; rintro e wd ⟨rfl, rfl⟩))
                go_roundw
                case rel => exact ⟨j + 1, by omega, by go_num, by rw [e3], _, all7, HP7.out, by rw [e3]; exact HR2.out, HPG7.out, HSP7.out, HB7.out⟩
                case measure => simp [intOf]; omega
            · have h492' : (492 : Int) < s.size := by omega
              have hsx : (s.extract 0 492).size ≤ 492 := by rw [ByteArray.size_extract]; omega
              have HSX := hid hsx
              have hput := put_all HP.out (by have := HPn.out.s; omega) (by rw [HPn.out.w]; decide) 1 (s.extract 0 492) (by rw [ByteArray.size_extract]; unfold maxLen; omega)
              by_cases hroom : j < 18 - i
              · have e1 : min j (18 - i) = j := by omega
                have e3 : min (j + 1) (18 - i) = j + 1 := by omega
                rw [e1] at HPn ⊢
                obtain ⟨hr1, hr2⟩ := HPn.out.putCommit HP.out.good (by omega) (by omega) (by omega) (s.extract 0 492) ⟨#[120]⟩ hsx (by decide)
                have hv1 : (P.put 1 (s.extract 0 492)).1 = (((i + 2 + j : Nat) : Int), 0) := by rw [HPn.out.put (by omega) (by omega) _ hsx]
                have hst : (P.put 1 (s.extract 0 492)).2.D.steps + 3 ≤ 1000 := by rw [HPn.out.put (by omega) (by omega) _ hsx]; have := HPn.out.s; simp only [DS.wrote]; omega
                rw [hv1] at hput
                generalize P.put 1 (s.extract 0 492) = X at hput hr1 hr2 hst
                obtain ⟨XX, P'⟩ := X
                simp only at hput hr1 hr2 hst
                have HPut := hid hput
                have HR1 := hid hr1
                have HR2 := hid hr2
                have HST := hid hst
                clear hput h492 hv1 hr1 hr2 hst hsx
                go_wp2_with fail
                refine HPut.out.mono ?_
                rintro e w5 ⟨rfl, all5, hp5, hk5, hn5⟩
                have HP5 := hid hp5
                have HB5 := hid (DidP.below HP.out hk5 HBL.out (Nat.le_refl _))
                have HPG5 := hid (HPG.out.keep hk5 HSP.out)
                have HSP5 : Hid (∀ g, (Value.slice hva i hvc).ownBlock = some g → g ∉ all5) := fun g hg hm => by
                  rcases hn5 g hm with h | h
                  · exact HSP.out g hg h
                  · have := (HPG.out.lt g hg).2; omega
                clear hp5 hk5 hn5
                have hwo := without_any HPG5.out ((i + 2 + j : Nat) : Int) (by rw [pagesOf_length]; omega)
                have HWo := hid hwo
                clear hwo
                have e2 : ((i + 2 + j : Nat) : Int) = (i : Int) + 2 + j := by omega
                rw [e2] at HWo
                go_wp2_with (first | (go_at_call 11; refine (no_any _ _).mono ?_; rintro e wd ⟨rfl, rfl⟩))
                refine HWo.out.mono ?_
                rintro e w6 ⟨v', rfl, hpg6, hb6⟩
                obtain ⟨ua, uc, hsh6⟩ := hpg6.shape
                rw [← e2, withoutL_all] at hsh6
                subst hsh6
                have HP6 := hid (HP5.out.later hb6)
                have HPG6 := hid (HPG5.out.keep (Kept.ofBelow hb6 []) (by simp))
                have HB6 := hid (HB5.out.trans (hb6.mono HB5.out.size))
                clear hpg6 hb6 HWo
                have hcom := commit_all HP6.out HST.out ⟨#[120]⟩ (by unfold maxLen; decide)
                rw [HR1.out] at hcom
                have HCom := hid hcom
                clear hcom
                go_wp2_with fail
                refine HCom.out.mono ?_
                rintro e w7 ⟨rfl, all7, hp7, hk7, hn7⟩
                have HP7 := hid hp7
                have HB7 := hid (DidP.below HP6.out hk7 HB6.out (Nat.le_refl _))
                have HPG7 := hid (HPG6.out.keep hk7 HSP5.out)
                have HSP7 : Hid (∀ g, (Value.slice hva i hvc).ownBlock = some g → g ∉ all7) := fun g hg hm => by
                  rcases hn7 g hm with h | h
                  · exact HSP5.out g hg h
                  · have := (HPG6.out.lt g hg).2; omega
                clear hp7 hk7 hn7
                go_wp2_with (first | (go_at_call 11; refine (no_any _ _).mono ?_; rintro e wd ⟨rfl, rfl⟩))
                go_roundw
                case rel => exact ⟨j + 1, by omega, by go_num, by rw [e3]; go_num, _, all7, HP7.out, by rw [e3]; exact HR2.out, HPG7.out, HSP7.out, HB7.out⟩
                case measure => simp [intOf]; omega
              · have e1 : min j (18 - i) = 18 - i := by omega
                have e3 : min (j + 1) (18 - i) = 18 - i := by omega
                rw [e1] at HPn ⊢
                rw [HPn.out.putFull (by omega) (by omega) _ hsx] at hput
                obtain ⟨hr1, hr2⟩ := HPn.out.commit HP.out.good (by omega) (by omega) (by omega) ⟨#[120]⟩ (by decide)
                have HPut := hid hput
                have HR1 := hid hr1
                have HR2 := hid hr2
                clear hput h492 hr1 hr2 hsx
                go_wp2_with fail
                refine HPut.out.mono ?_
                rintro e w5 ⟨rfl, all5, hp5, hk5, hn5⟩
                have HP5 := hid hp5
                have HB5 := hid (DidP.below HP.out hk5 HBL.out (Nat.le_refl _))
                have HPG5 := hid (HPG.out.keep hk5 HSP.out)
                have HSP5 : Hid (∀ g, (Value.slice hva i hvc).ownBlock = some g → g ∉ all5) := fun g hg hm => by
                  rcases hn5 g hm with h | h
                  · exact HSP.out g hg h
                  · have := (HPG.out.lt g hg).2; omega
                clear hp5 hk5 hn5
                have hcom := commit_all HP5.out (by have := HPn.out.s; omega) ⟨#[120]⟩ (by unfold maxLen; decide)
                rw [HR1.out] at hcom
                have HCom := hid hcom
                clear hcom
                go_wp2_with (first | (go_at_call 11; refine (no_any _ _).mono ?_; rintro e wd ⟨rfl, rfl⟩))
                refine HCom.out.mono ?_
                rintro e w7 ⟨rfl, all7, hp7, hk7, hn7⟩
                have HP7 := hid hp7
                have HB7 := hid (DidP.below HP5.out hk7 HB5.out (Nat.le_refl _))
                have HPG7 := hid (HPG5.out.keep hk7 HSP5.out)
                have HSP7 : Hid (∀ g, (Value.slice hva i hvc).ownBlock = some g → g ∉ all7) := fun g hg hm => by
                  rcases hn7 g hm with h | h
                  · exact HSP5.out g hg h
                  · have := (HPG5.out.lt g hg).2; omega
                clear hp7 hk7 hn7
                go_wp2_with (first | (go_at_call 11; refine (no_any _ _).mono ?_; rintro e wd ⟨rfl, rfl⟩))
                go_roundw
                case rel => exact ⟨j + 1, by omega, by go_num, by rw [e3], _, all7, HP7.out, by rw [e3]; exact HR2.out, HPG7.out, HSP7.out, HB7.out⟩
                case measure => simp [intOf]; omega
          · obtain rfl : j = l1 := by omega
            have hjt' : ¬ (j : Int) < j := by omega
            go_wp2_with fail
            go_loopw [90] (fun q wr => ∃ k : Nat, k ≤ i ∧ q = .int .i64 k ∧ ∃ P all, Pgr wr w.heap.size b db all P ∧ Pn 20 i ss j (min j (18 - i)) P ∧ PgsAt wr w.heap.size (.slice hva i hvc) (pagesOf ss i) ∧ (∀ g, (Value.slice hva i hvc).ownBlock = some g → g ∉ all) ∧ Below w.heap.size w wr) (fun q _ => i - (intOf q).toNat)
            case atStart => exact ⟨0, by omega, rfl, _, _, HP.out, HPn.out, HPG.out, HSP.out, HBL.out⟩
            case round =>
              clear HP HPn HPG HSP HBL
              obtain ⟨k, hki, rfl, P, all, hP, hPn, hPg, hSep, hBel⟩ := hrel
              have HP := hid hP
              have HPn := hid hPn
              have HPG := hid hPg
              have HSP := hid hSep
              have HBL := hid hBel
              clear hP hPn hPg hSep hBel
              by_cases hkt : k < i
              · have hkt' : (k : Int) < i := by omega
                obtain ⟨g, c, hsh, hob, hc1, hc2⟩ := HPG.out.get k (by rw [pagesOf_length]; exact hkt)
                simp only [pagesOf_length, Value.slice.injEq, true_and] at hsh
                obtain ⟨rfl, rfl⟩ := hsh
                rw [pagesOf_get] at hc1 hc2
                simp only at hc1 hc2
                have HP0 := hid (HP.out.keep (Kept.alloc [] wr (.cells #[.int .i64 ((k : Int) + 2), .string (conAt ss k)] 65)) (by simp))
                have HB0 := hid (HBL.out.alloc HBL.out.size (.cells #[.int .i64 ((k : Int) + 2), .string (conAt ss k)] 65))
                have HPG0 := hid (HPG.out.keep (Kept.alloc [] wr (.cells #[.int .i64 ((k : Int) + 2), .string (conAt ss k)] 65)) (by simp))
                have HNA : Hid (wr.heap.size ∉ all) := fun h => by have := (HP.out.lt _ h).2; omega
                have hx1 : (wr.alloc (.cells #[.int .i64 ((k : Int) + 2), .string (conAt ss k)] 65)).cell? ⟨wr.heap.size, 1, none⟩ = some (.string (conAt ss k)) := by simp
                have HX1 := hid hx1
                clear hx1
                have hrd := read_all HP0.out ((k + 2 : Nat) : Int)
                rw [HPn.out.read hkt (by omega) (by omega)] at hrd
                have e2 : ((k + 2 : Nat) : Int) = (k : Int) + 2 := by omega
                rw [e2] at hrd
                have HRD := hid hrd
                clear hrd
                go_wp2_with fail
                refine HRD.out.mono ?_
                rintro e w5 ⟨rfl, all5, hp5, hk5, hn5⟩
                have HP5 := hid hp5
                have HB5 := hid (DidP.below HP0.out hk5 HB0.out (Nat.le_refl _))
                have HPG5 := hid (HPG0.out.keep hk5 HSP.out)
                have HSP5 : Hid (∀ g', (Value.slice (some ⟨g, 0, none⟩) i hvc).ownBlock = some g' → g' ∉ all5) := fun g' hg hm => by
                  rcases hn5 g' hm with h | h
                  · exact HSP.out g' hg h
                  · have := (HPG0.out.lt g' hg).2; omega
                have hy1 : w5.cell? ⟨wr.heap.size, 1, none⟩ = some (.string (conAt ss k)) := hk5.cell HX1.out (by simpa using HNA.out)
                clear hp5 hk5 hn5 HX1 HNA HP0 HB0 HPG0 HRD
                unfold RdV.val
                go_wp2_with (first | (go_at_call 11; refine (no_any _ _).mono ?_; rintro e wd ⟨rfl, rfl⟩))
                go_roundw
                case rel => exact ⟨k + 1, by omega, by go_num, _, all5, HP5.out, HPn.out, HPG5.out, HSP5.out, HB5.out⟩
                case measure => simp [intOf]; omega
              · obtain rfl : k = i := by omega
                have hkt' : ¬ (k : Int) < k := by omega
                by_cases hroom : j < 18 - k
                · have e1 : min j (18 - k) = j := by omega
                  have hri : (j : Int) < ((18 - k : Nat) : Int) := by omega
                  rw [e1] at HPn ⊢
                  have h1 := hid (free_any HP.out)
                  rw [show cntFree P.st = 18 - k - j by rw [HPn.out.st, stP_cnt _ 20 k _ (shJ_ne j) (by omega)]; try omega] at h1
                  obtain ⟨hr1, hr2⟩ := HPn.out.commit HP.out.good (by omega) (by omega) (by omega) ⟨#[121]⟩ (by decide)
                  have hcom := commit_all HP.out (by have := HPn.out.s; omega) ⟨#[121]⟩ (by unfold maxLen; decide)
                  rw [hr1] at hcom
                  generalize (P.commit ⟨#[121]⟩).2 = P6 at hcom hr2
                  have HCom := hid hcom
                  have HR6 := hid hr2
                  clear hcom hr1 hr2
                  have hq1 : wrap64 (((18 - k : Nat) : Int) - (j : Int)) = ((18 - k - j : Nat) : Int) := by rw [wrap64_fits _ (by omega) (by omega)]; omega
                  have hq3 : wrap64 (((18 - k - j : Nat) : Int) + (k : Int)) = ((18 - j : Nat) : Int) := by rw [wrap64_fits _ (by omega) (by omega)]; omega
                  go_wp2_with (first | (go_at_call 26; refine h1.out.mono ?_; rintro e we ⟨rfl, rfl⟩))
                  refine HCom.out.mono ?_
                  rintro e w7 ⟨rfl, all7, hp7, hk7, hn7⟩
                  have HP7 := hid hp7
                  have HB7 := hid (DidP.below HP.out hk7 HBL.out (Nat.le_refl _))
                  clear hp7 hk7 hn7 h1
                  obtain ⟨hu1, hu2, hu3, hu4⟩ := HR6.out.unpin (by omega)
                  have hun := unpin_all HP7.out (by rw [HR6.out.pins]; decide) (by rw [HR6.out.pm]; decide) 2 (by omega)
                  rw [hu1] at hun
                  generalize (P6.unpin 2).2 = P8 at hun hu2 hu3 hu4
                  have HUn := hid hun
                  have HU2 := hid hu2
                  have HU3 := hid hu3
                  have HU4 := hid hu4
                  clear hun hu1 hu2 hu3 hu4
                  go_wp2_with (first | (go_at_call 11; refine (no_any _ _).mono ?_; rintro e wd ⟨rfl, rfl⟩))
                  refine HUn.out.mono ?_
                  rintro e w8 ⟨rfl, all8, hp8, hk8, hn8⟩
                  have HP8 := hid hp8
                  have HB8 := hid (DidP.below HP7.out hk8 HB7.out (Nat.le_refl _))
                  clear hp8 hk8 hn8 HUn
                  have h2 := hid (free_any HP8.out)
                  rw [HU4.out] at h2
                  have hun := unpin_all HP8.out (by rw [HU2.out]; decide) (by rw [HU3.out]; decide) 2 (by omega)
                  have hu5 : P8.unpin 2 = (7, P8) := by unfold PS.unpin; rw [HU2.out]; rfl
                  rw [hu5] at hun
                  have HUn := hid hun
                  clear hun hu5
                  go_wp2_with (first | (go_at_call 11; refine (no_any _ _).mono ?_; rintro e wd ⟨rfl, rfl⟩) | (go_at_call 26; refine h2.out.mono ?_; rintro e we ⟨rfl, rfl⟩))
                  refine HUn.out.mono ?_
                  rintro e w9 ⟨rfl, all9, hp9, hk9, hn9⟩
                  have HB9 := hid (DidP.below HP8.out hk9 HB8.out (Nat.le_refl _))
                  clear hp9 hk9 hn9 HUn
                  go_wp2_with (first | (go_at_call 11; refine (no_any _ _).mono ?_; rintro e wd ⟨rfl, rfl⟩))
                  go_ret
                  exact ⟨rfl, HB9.out⟩
                · have e1 : min j (18 - k) = (18 - k) := by omega
                  have hri : ¬ (j : Int) < ((18 - k : Nat) : Int) := by omega
                  rw [e1] at HPn ⊢
                  have h1 := hid (free_any HP.out)
                  rw [show cntFree P.st = 0 by rw [HPn.out.st, stP_cnt _ 20 k _ (shJ_ne j) (by omega)]; try omega] at h1
                  obtain ⟨hr1, hr2⟩ := HPn.out.commit HP.out.good (by omega) (by omega) (by omega) ⟨#[121]⟩ (by decide)
                  have hcom := commit_all HP.out (by have := HPn.out.s; omega) ⟨#[121]⟩ (by unfold maxLen; decide)
                  rw [hr1] at hcom
                  generalize (P.commit ⟨#[121]⟩).2 = P6 at hcom hr2
                  have HCom := hid hcom
                  have HR6 := hid hr2
                  clear hcom hr1 hr2
                  skip
                  have hq3 : wrap64 (((0 : Nat) : Int) + (k : Int)) = ((18 - (18 - k) : Nat) : Int) := by rw [wrap64_fits _ (by omega) (by omega)]; omega
                  go_wp2_with (first | (go_at_call 26; refine h1.out.mono ?_; rintro e we ⟨rfl, rfl⟩))
                  refine HCom.out.mono ?_
                  rintro e w7 ⟨rfl, all7, hp7, hk7, hn7⟩
                  have HP7 := hid hp7
                  have HB7 := hid (DidP.below HP.out hk7 HBL.out (Nat.le_refl _))
                  clear hp7 hk7 hn7 h1
                  obtain ⟨hu1, hu2, hu3, hu4⟩ := HR6.out.unpin (by omega)
                  have hun := unpin_all HP7.out (by rw [HR6.out.pins]; decide) (by rw [HR6.out.pm]; decide) 2 (by omega)
                  rw [hu1] at hun
                  generalize (P6.unpin 2).2 = P8 at hun hu2 hu3 hu4
                  have HUn := hid hun
                  have HU2 := hid hu2
                  have HU3 := hid hu3
                  have HU4 := hid hu4
                  clear hun hu1 hu2 hu3 hu4
                  go_wp2_with (first | (go_at_call 11; refine (no_any _ _).mono ?_; rintro e wd ⟨rfl, rfl⟩))
                  refine HUn.out.mono ?_
                  rintro e w8 ⟨rfl, all8, hp8, hk8, hn8⟩
                  have HP8 := hid hp8
                  have HB8 := hid (DidP.below HP7.out hk8 HB7.out (Nat.le_refl _))
                  clear hp8 hk8 hn8 HUn
                  have h2 := hid (free_any HP8.out)
                  rw [HU4.out] at h2
                  have hun := unpin_all HP8.out (by rw [HU2.out]; decide) (by rw [HU3.out]; decide) 2 (by omega)
                  have hu5 : P8.unpin 2 = (7, P8) := by unfold PS.unpin; rw [HU2.out]; rfl
                  rw [hu5] at hun
                  have HUn := hid hun
                  clear hun hu5
                  go_wp2_with (first | (go_at_call 11; refine (no_any _ _).mono ?_; rintro e wd ⟨rfl, rfl⟩) | (go_at_call 26; refine h2.out.mono ?_; rintro e we ⟨rfl, rfl⟩))
                  refine HUn.out.mono ?_
                  rintro e w9 ⟨rfl, all9, hp9, hk9, hn9⟩
                  have HB9 := hid (DidP.below HP8.out hk9 HB8.out (Nat.le_refl _))
                  clear hp9 hk9 hn9 HUn
                  go_wp2_with (first | (go_at_call 11; refine (no_any _ _).mono ?_; rintro e wd ⟨rfl, rfl⟩))
                  go_ret
                  exact ⟨rfl, HB9.out⟩
  · have h20' : (20 : Int) < l1 := by omega
    go_wp2_with (first | (go_at_call 12; refine (alive_any _).mono ?_; rintro e w2 ⟨rfl, hb2⟩; have HP2 := hid (HP1.out.later hb2); have HPG2 := hid (HPG1.out.keep (Kept.ofBelow hb2 []) (by simp)); have HB2 := hid (HB1.out.trans (hb2.mono HB1.out.size)); clear hb2 HP1 HPG1 HB1))
    go_ret
    exact ⟨rfl, HB2.out⟩

theorem own : ownKnob Try.prog.godebug = none := by kernel_rfl
theorem laidOut : laidOutB Try.prog = true := by kernel_rfl

set_option maxRecDepth 100000 in
theorem lifted (os : Os) (started : os.Started) (H : Type) (enc : TypeId × Value → H) :
    ReturnsInHanded {} Try.checked os 5 .any (Rows.pagerPinnedSpec.pre6 enc Try.prog Try.f5 Rows.pagerPinnedRow.domain false) (Rows.pagerPinnedSpec.post enc Try.prog Try.f5 false true false false) := by
  refine returnsInHanded_of_change (C := Try.checked) own started (by kernel_rfl) Try.func5
    (ChangeSpec.witness6 (enc := enc) (C := Try.checked) false ⟨#[], #[.slice none 0 0, .slice none 0 0], []⟩ 8 (by kernel_rfl) (by kernel_rfl) (by kernel_rfl) (by kernel_rfl)) ?_
  intro W base args ds gs before hval0 hW hcnd _
  have hval : ∀ (j : Nat) t v, Try.f5.params[j]? = some t → args[j]? = some v → Value.okWide Try.prog W .any base t v := hval0
  have hW' := hW
  obtain ⟨p, q, hA0, hV, rfl, hfz, hnd⟩ := hW
  have hA : DataW.TrodAll enc Try.prog W 0 (fun _ => true) true Try.f5.params.toList args.toList ds p := hA0
  rw [Try.params5] at hA hval
  obtain ⟨v0, vs0, d0, ds0, p0, q0, hargs, rfl, rfl, h0, r0⟩ := trodAll_cons hA
  obtain ⟨v1, vs1, d1, ds1, p1, q1, rfl, rfl, rfl, h1, r1⟩ := trodAll_cons r0
  obtain ⟨rfl, rfl, rfl⟩ := trodAll_nil r1
  obtain rfl : args = #[v0, v1] := by cases args; simp_all
  obtain ⟨rfl, rfl⟩ := trodVars_none hV
  obtain ⟨a0, len0, cap0, rfl⟩ := okWide_slice Try.underlying56 (hval 0 56 v0 rfl rfl)
  have lt0 : ∀ x ∈ p0, x.block < W.heap.size := by obtain ⟨m, hm⟩ := h0; exact DataW.trod_lt m _ _ _ hm
  obtain ⟨l0, hl0⟩ : ∃ l, StrsOk W a0 len0 l := by obtain ⟨fuel, hf⟩ := h0; exact open_strsOk hf
  obtain ⟨a1, len1, cap1, rfl⟩ := okWide_slice Try.underlying56 (hval 1 56 v1 rfl rfl)
  have lt1 : ∀ x ∈ p1, x.block < W.heap.size := by obtain ⟨m, hm⟩ := h1; exact DataW.trod_lt m _ _ _ hm
  obtain ⟨l1, hl1⟩ : ∃ l, StrsOk W a1 len1 l := by obtain ⟨fuel, hf⟩ := h1; exact open_strsOk hf
  clear hA0 hval0
  refine (walk hl0 hl1).mono fun e W' ⟨he, bel⟩ => ?_
  subst he
  exact ⟨_, rfl, _, _, _, [], _, [], hW', trodAll_mk1 (shut_bool Try.underlying4 _), (trodAll_cons_mk (Below.trod laidOut (by kernel_rfl) (of_decide_eq_true (by kernel_rfl)) h0 bel lt0) (trodAll_cons_mk (Below.trod laidOut (by kernel_rfl) (of_decide_eq_true (by kernel_rfl)) h1 bel lt1) trodAll_mk0)), rfl, bel.frame _, fun h => by cases h⟩

theorem over : Rows.pagerPinnedRow.holds Try.pinned (OpenSpec.ofChange Rows.pagerPinnedSpec) :=
  OpenClaim.holds_of_wide 5 Try.f5 rfl rfl rfl rfl rfl rfl rfl ⟨rfl, rfl, rfl, rfl, rfl⟩ rfl rfl rfl rfl rfl (by kernel_rfl) Try.func5 (by kernel_rfl)
    (of_decide_eq_true (by kernel_rfl)) (by unfold Func.isWrapper; first | (rw [if_pos (by decide +kernel)]; kernel_rfl) | (rw [if_neg (by decide +kernel)]; exact ⟨rfl, rfl⟩))
    (fun os started H enc _ => lifted os started H enc)
end Go.Proofs.Ytambgimfbdecpaa.pagerPinned
namespace Go.Proofs.Ytambgimfbdecpaa
/-- THE STATEMENT. -/
theorem pagerPinned_holds : Rows.PagerPinnedSaid := pagerPinned.over
#print axioms pagerPinned_holds
end Go.Proofs.Ytambgimfbdecpaa
