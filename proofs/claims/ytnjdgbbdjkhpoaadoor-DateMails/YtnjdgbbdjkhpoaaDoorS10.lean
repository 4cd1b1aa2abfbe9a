/- What this text holds: the program's reader: mail. (Written by genr.py.) -/
import Derived.Test.YtnjdgbbdjkhpoaaDoorS9
namespace Go.Proofs.YtnjdgbbdjkhpoaaDoor
open Go.RowKit
set_option linter.unusedVariables false
set_option linter.unusedSimpArgs false

set_option maxRecDepth 100000 in
set_option maxHeartbeats 4000000 in
theorem mail_any {w : World} {b : Nat} {l : Bs} {t : Dt} (h : RAt w b ⟨l, t⟩) (h1 : l.length ≤ 1000000) :
    Calls Tryd.prog 50 #[.pointer (some ⟨b, 0, none⟩)] w fun e w' => RdOut (mailP ⟨l, t⟩) b w e w' := by
  have HR0 := hid h
  have HL0 := hid h1
  have HK0 := hid (Kept.refl [b] w)
  clear h h1
  go_enter Tryd.func50, Tryd.ntmps50
  go_wp2_with fail
  refine (blanks_any HR0.out HL0.out).mono ?_
  rintro e w1 ⟨rfl, hr, hk⟩
  have HR1 := hid hr
  have HK1 := hid (HK0.out.trans1 hk)
  have HL1 : Hid ((l.dropWhile blankB).length ≤ 1000000) := by have h1 := dw_len l; have h2 := HL0.out; unfold Hid; omega
  clear hr hk
  go_wp2_with fail
  have C := weekday_any HR1.out HL1.out
  rcases hq : weekdayP (l.dropWhile blankB) with _ | l2
  · rw [hq] at C
    have HQ2 := hid hq
    refine C.mono ?_
    rintro e w2 ⟨rfl, hk⟩
    refine ⟨rfl, ?_⟩
    change RdOut _ _ _ _ _
    have HP : mailP ⟨l, t⟩ = none := by
      unfold mailP mailDay gapR
      simp only [HQ2.out, Option.bind_some, Option.bind_none, if_true, Bool.false_eq_true, if_false, Option.getD_some, Option.getD_none, Option.map_some, Option.map_none]
    rw [HP]
    exact ⟨rfl, HK1.out.trans1 hk⟩
  · rw [hq] at C
    have HQ2 := hid hq
    have HL2 : Hid (l2.length ≤ 1000000) := by have h1 := weekday_len hq; have h2 := HL1.out; unfold Hid; omega
    clear hq
    refine C.mono ?_
    clear C
    rintro e w2 ⟨rfl, hr, hk⟩
    have HR2 := hid hr
    have HK2 := hid (HK1.out.trans1 hk)
    clear hr hk
    go_wp2_with fail
    have C := number_any HR2.out HL2.out 1 2 (by omega) (by omega)
    rcases hq : numP 1 2 l2 with _ | ⟨n3, l3⟩
    · rw [hq] at C
      have HQ3 := hid hq
      refine C.mono ?_
      rintro e w3 ⟨rfl, hk⟩
      refine ⟨rfl, ?_⟩
      change RdOut _ _ _ _ _
      have HP : mailP ⟨l, t⟩ = none := by
        unfold mailP mailDay gapR
        simp only [HQ2.out, HQ3.out, Option.bind_some, Option.bind_none, if_true, Bool.false_eq_true, if_false, Option.getD_some, Option.getD_none, Option.map_some, Option.map_none]
      rw [HP]
      exact ⟨rfl, HK2.out.trans1 hk⟩
    · rw [hq] at C
      have HQ3 := hid hq
      have HL3 : Hid (l3.length ≤ 1000000) := by have h1 := num_len hq; have h2 := HL2.out; unfold Hid; omega
      clear hq
      refine C.mono ?_
      clear C
      rintro e w3 ⟨rfl, hr, hk⟩
      have HR3 := hid hr
      have HK3 := hid (HK2.out.trans1 hk)
      have hcs := hr.cs
      have cc := hcs.2.2.1
      have cf := hr.fz 3
      simp only at cc
      clear hcs hr hk
      skip
      go_wp2_with fail
      have HR3' := hid (HR3.out.set 3 (.int .i64 n3) ⟨l3, ⟨t.y, t.mo, n3, t.h, t.mi, t.s, t.z⟩⟩ rfl)
      have HK3' := hid (HK3.out.trans1 (Kept.setCell [b] w3 ⟨b, 3, none⟩ (.int .i64 n3) (by simp)))
      clear HR3 HK3 cc cf
      have HR3 := HR3'
      have HK3 := HK3'
      clear HR3' HK3'
      generalize w3.setCell ⟨b, 3, none⟩ (.int .i64 n3) = v3 at HR3 HK3 ⊢
      go_wp2_with fail
      have C := gap_any HR3.out HL3.out
      rcases hq : gapP l3 with _ | l4
      · rw [hq] at C
        have HQ4 := hid hq
        refine C.mono ?_
        rintro e w4 ⟨rfl, hk⟩
        refine ⟨rfl, ?_⟩
        change RdOut _ _ _ _ _
        have HP : mailP ⟨l, t⟩ = none := by
          unfold mailP mailDay gapR
          simp only [HQ2.out, HQ3.out, HQ4.out, Option.bind_some, Option.bind_none, if_true, Bool.false_eq_true, if_false, Option.getD_some, Option.getD_none, Option.map_some, Option.map_none]
        rw [HP]
        exact ⟨rfl, HK3.out.trans1 hk⟩
      · rw [hq] at C
        have HQ4 := hid hq
        have HL4 : Hid (l4.length ≤ 1000000) := by have h1 := gap_len hq; have h2 := HL3.out; unfold Hid; omega
        clear hq
        refine C.mono ?_
        clear C
        rintro e w4 ⟨rfl, hr, hk⟩
        have HR4 := hid hr
        have HK4 := hid (HK3.out.trans1 hk)
        clear hr hk
        go_wp2_with fail
        have C := month_any HR4.out HL4.out
        rcases hq : monthP l4 with _ | ⟨n5, l5⟩
        · rw [hq] at C
          have HQ5 := hid hq
          refine C.mono ?_
          rintro e w5 ⟨rfl, hk⟩
          refine ⟨rfl, ?_⟩
          change RdOut _ _ _ _ _
          have HP : mailP ⟨l, t⟩ = none := by
            unfold mailP mailDay gapR
            simp only [HQ2.out, HQ3.out, HQ4.out, HQ5.out, Option.bind_some, Option.bind_none, if_true, Bool.false_eq_true, if_false, Option.getD_some, Option.getD_none, Option.map_some, Option.map_none]
          rw [HP]
          exact ⟨rfl, HK4.out.trans1 hk⟩
        · rw [hq] at C
          have HQ5 := hid hq
          have HL5 : Hid (l5.length ≤ 1000000) := by have h1 := month_len hq; have h2 := HL4.out; unfold Hid; omega
          clear hq
          refine C.mono ?_
          clear C
          rintro e w5 ⟨rfl, hr, hk⟩
          have HR5 := hid hr
          have HK5 := hid (HK4.out.trans1 hk)
          have hcs := hr.cs
          have cc := hcs.2.1
          have cf := hr.fz 2
          simp only at cc
          clear hcs hr hk
          skip
          go_wp2_with fail
          have HR5' := hid (HR5.out.set 2 (.int .i64 n5) ⟨l5, ⟨t.y, n5, n3, t.h, t.mi, t.s, t.z⟩⟩ rfl)
          have HK5' := hid (HK5.out.trans1 (Kept.setCell [b] w5 ⟨b, 2, none⟩ (.int .i64 n5) (by simp)))
          clear HR5 HK5 cc cf
          have HR5 := HR5'
          have HK5 := HK5'
          clear HR5' HK5'
          generalize w5.setCell ⟨b, 2, none⟩ (.int .i64 n5) = v5 at HR5 HK5 ⊢
          go_wp2_with fail
          have C := gap_any HR5.out HL5.out
          rcases hq : gapP l5 with _ | l6
          · rw [hq] at C
            have HQ6 := hid hq
            refine C.mono ?_
            rintro e w6 ⟨rfl, hk⟩
            refine ⟨rfl, ?_⟩
            change RdOut _ _ _ _ _
            have HP : mailP ⟨l, t⟩ = none := by
              unfold mailP mailDay gapR
              simp only [HQ2.out, HQ3.out, HQ4.out, HQ5.out, HQ6.out, Option.bind_some, Option.bind_none, if_true, Bool.false_eq_true, if_false, Option.getD_some, Option.getD_none, Option.map_some, Option.map_none]
            rw [HP]
            exact ⟨rfl, HK5.out.trans1 hk⟩
          · rw [hq] at C
            have HQ6 := hid hq
            have HL6 : Hid (l6.length ≤ 1000000) := by have h1 := gap_len hq; have h2 := HL5.out; unfold Hid; omega
            clear hq
            refine C.mono ?_
            clear C
            rintro e w6 ⟨rfl, hr, hk⟩
            have HR6 := hid hr
            have HK6 := hid (HK5.out.trans1 hk)
            clear hr hk
            go_wp2_with fail
            have C := number_any HR6.out HL6.out 4 4 (by omega) (by omega)
            rcases hq : numP 4 4 l6 with _ | ⟨n7, l7⟩
            · rw [hq] at C
              have HQ7 := hid hq
              refine C.mono ?_
              rintro e w7 ⟨rfl, hk⟩
              refine ⟨rfl, ?_⟩
              change RdOut _ _ _ _ _
              have HP : mailP ⟨l, t⟩ = none := by
                unfold mailP mailDay gapR
                simp only [HQ2.out, HQ3.out, HQ4.out, HQ5.out, HQ6.out, HQ7.out, Option.bind_some, Option.bind_none, if_true, Bool.false_eq_true, if_false, Option.getD_some, Option.getD_none, Option.map_some, Option.map_none]
              rw [HP]
              exact ⟨rfl, HK6.out.trans1 hk⟩
            · rw [hq] at C
              have HQ7 := hid hq
              have HL7 : Hid (l7.length ≤ 1000000) := by have h1 := num_len hq; have h2 := HL6.out; unfold Hid; omega
              clear hq
              refine C.mono ?_
              clear C
              rintro e w7 ⟨rfl, hr, hk⟩
              have HR7 := hid hr
              have HK7 := hid (HK6.out.trans1 hk)
              have hcs := hr.cs
              have cc := hcs.1
              have cf := hr.fz 1
              simp only at cc
              clear hcs hr hk
              skip
              go_wp2_with fail
              have HR7' := hid (HR7.out.set 1 (.int .i64 n7) ⟨l7, ⟨n7, n5, n3, t.h, t.mi, t.s, t.z⟩⟩ rfl)
              have HK7' := hid (HK7.out.trans1 (Kept.setCell [b] w7 ⟨b, 1, none⟩ (.int .i64 n7) (by simp)))
              clear HR7 HK7 cc cf
              have HR7 := HR7'
              have HK7 := HK7'
              clear HR7' HK7'
              generalize w7.setCell ⟨b, 1, none⟩ (.int .i64 n7) = v7 at HR7 HK7 ⊢
              go_wp2_with fail
              have C := gap_any HR7.out HL7.out
              rcases hq : gapP l7 with _ | l8
              · rw [hq] at C
                have HQ8 := hid hq
                refine C.mono ?_
                rintro e w8 ⟨rfl, hk⟩
                refine ⟨rfl, ?_⟩
                change RdOut _ _ _ _ _
                have HP : mailP ⟨l, t⟩ = none := by
                  unfold mailP mailDay gapR
                  simp only [HQ2.out, HQ3.out, HQ4.out, HQ5.out, HQ6.out, HQ7.out, HQ8.out, Option.bind_some, Option.bind_none, if_true, Bool.false_eq_true, if_false, Option.getD_some, Option.getD_none, Option.map_some, Option.map_none]
                rw [HP]
                exact ⟨rfl, HK7.out.trans1 hk⟩
              · rw [hq] at C
                have HQ8 := hid hq
                have HL8 : Hid (l8.length ≤ 1000000) := by have h1 := gap_len hq; have h2 := HL7.out; unfold Hid; omega
                clear hq
                refine C.mono ?_
                clear C
                rintro e w8 ⟨rfl, hr, hk⟩
                have HR8 := hid hr
                have HK8 := hid (HK7.out.trans1 hk)
                clear hr hk
                go_wp2_with fail
                have C := clock_any HR8.out HL8.out
                rcases hq : clockR ⟨l8, ⟨n7, n5, n3, t.h, t.mi, t.s, t.z⟩⟩ with _ | ⟨l9, t9⟩
                · rw [hq] at C
                  have HQ9 := hid hq
                  refine C.mono ?_
                  rintro e w9 ⟨rfl, hk⟩
                  refine ⟨rfl, ?_⟩
                  change RdOut _ _ _ _ _
                  have HP : mailP ⟨l, t⟩ = none := by
                    unfold mailP mailDay gapR
                    simp only [HQ2.out, HQ3.out, HQ4.out, HQ5.out, HQ6.out, HQ7.out, HQ8.out, HQ9.out, Option.bind_some, Option.bind_none, if_true, Bool.false_eq_true, if_false, Option.getD_some, Option.getD_none, Option.map_some, Option.map_none]
                  rw [HP]
                  exact ⟨rfl, HK8.out.trans1 hk⟩
                · rw [hq] at C
                  have HQ9 := hid hq
                  have HL9 : Hid (l9.length ≤ 1000000) := by have h1 := clock_len hq; have h2 := HL8.out; unfold Hid; omega
                  clear hq
                  refine C.mono ?_
                  clear C
                  rintro e w9 ⟨rfl, hr, hk⟩
                  have HR9 := hid hr
                  have HK9 := hid (HK8.out.trans1 hk)
                  clear hr hk
                  go_wp2_with fail
                  have C := gap_any HR9.out HL9.out
                  rcases hq : gapP l9 with _ | l10
                  · rw [hq] at C
                    have HQ10 := hid hq
                    refine C.mono ?_
                    rintro e w10 ⟨rfl, hk⟩
                    refine ⟨rfl, ?_⟩
                    change RdOut _ _ _ _ _
                    have HP : mailP ⟨l, t⟩ = none := by
                      unfold mailP mailDay gapR
                      simp only [HQ2.out, HQ3.out, HQ4.out, HQ5.out, HQ6.out, HQ7.out, HQ8.out, HQ9.out, HQ10.out, Option.bind_some, Option.bind_none, if_true, Bool.false_eq_true, if_false, Option.getD_some, Option.getD_none, Option.map_some, Option.map_none]
                    rw [HP]
                    exact ⟨rfl, HK9.out.trans1 hk⟩
                  · rw [hq] at C
                    have HQ10 := hid hq
                    have HL10 : Hid (l10.length ≤ 1000000) := by have h1 := gap_len hq; have h2 := HL9.out; unfold Hid; omega
                    clear hq
                    refine C.mono ?_
                    clear C
                    rintro e w10 ⟨rfl, hr, hk⟩
                    have HR10 := hid hr
                    have HK10 := hid (HK9.out.trans1 hk)
                    clear hr hk
                    go_wp2_with fail
                    have C := zone_any HR10.out HL10.out
                    rcases hq : zoneR ⟨l10, t9⟩ with _ | ⟨l11, t11⟩
                    · rw [hq] at C
                      have HQ11 := hid hq
                      refine C.mono ?_
                      rintro e w11 ⟨rfl, hk⟩
                      refine ⟨rfl, ?_⟩
                      change RdOut _ _ _ _ _
                      have HP : mailP ⟨l, t⟩ = none := by
                        unfold mailP mailDay gapR
                        simp only [HQ2.out, HQ3.out, HQ4.out, HQ5.out, HQ6.out, HQ7.out, HQ8.out, HQ9.out, HQ10.out, HQ11.out, Option.bind_some, Option.bind_none, if_true, Bool.false_eq_true, if_false, Option.getD_some, Option.getD_none, Option.map_some, Option.map_none]
                      rw [HP]
                      exact ⟨rfl, HK10.out.trans1 hk⟩
                    · rw [hq] at C
                      have HQ11 := hid hq
                      have HL11 : Hid (l11.length ≤ 1000000) := by have h1 := zone_len hq; have h2 := HL10.out; unfold Hid; omega
                      clear hq
                      refine C.mono ?_
                      clear C
                      rintro e w11 ⟨rfl, hr, hk⟩
                      have HR11 := hid hr
                      have HK11 := hid (HK10.out.trans1 hk)
                      clear hr hk
                      go_wp2_with fail
                      refine (blanks_any HR11.out HL11.out).mono ?_
                      rintro e w12 ⟨rfl, hr, hk⟩
                      have HR12 := hid hr
                      have HK12 := hid (HK11.out.trans1 hk)
                      have HL12 : Hid ((l11.dropWhile blankB).length ≤ 1000000) := by have h1 := dw_len l11; have h2 := HL11.out; unfold Hid; omega
                      clear hr hk
                      go_wp2_with fail
                      go_end0
                      have HP : mailP ⟨l, t⟩ = some ⟨(l11.dropWhile blankB), t11⟩ := by
                        unfold mailP mailDay gapR
                        simp only [HQ2.out, HQ3.out, HQ4.out, HQ5.out, HQ6.out, HQ7.out, HQ8.out, HQ9.out, HQ10.out, HQ11.out, Option.bind_some, Option.bind_none, if_true, Bool.false_eq_true, if_false, Option.getD_some, Option.getD_none, Option.map_some, Option.map_none]
                      rw [HP]
                      exact ⟨rfl, HR12.out, HK12.out⟩
end Go.Proofs.YtnjdgbbdjkhpoaaDoor
