/- What this text holds: the program's reader: clock, zone. (Written by genr.py.) -/
import Derived.Test.YtnjdgbbdjkhpoaaDoorS7
namespace Go.Proofs.YtnjdgbbdjkhpoaaDoor
open Go.RowKit
set_option linter.unusedVariables false
set_option linter.unusedSimpArgs false

set_option maxRecDepth 100000 in
set_option maxHeartbeats 4000000 in
theorem clock_any {w : World} {b : Nat} {l : Bs} {t : Dt} (h : RAt w b ⟨l, t⟩) (h1 : l.length ≤ 1000000) :
    Calls Tryd.prog 63 #[.pointer (some ⟨b, 0, none⟩)] w fun e w' => RdOut (clockR ⟨l, t⟩) b w e w' := by
  have HR0 := hid h
  have HL0 := hid h1
  have HK0 := hid (Kept.refl [b] w)
  clear h h1
  go_enter Tryd.func63, Tryd.ntmps63
  go_wp2_with fail
  have C := number_any HR0.out HL0.out 2 2 (by omega) (by omega)
  rcases hq : numP 2 2 l with _ | ⟨n1, l1⟩
  · rw [hq] at C
    have HQ1 := hid hq
    refine C.mono ?_
    rintro e w1 ⟨rfl, hk⟩
    refine ⟨rfl, ?_⟩
    change RdOut _ _ _ _ _
    have HP : clockR ⟨l, t⟩ = none := by
      unfold clockR clockP
      simp only [HQ1.out, Option.bind_some, Option.bind_none, if_true, Bool.false_eq_true, if_false, Option.getD_some, Option.getD_none, Option.map_some, Option.map_none]
    rw [HP]
    exact ⟨rfl, HK0.out.trans1 hk⟩
  · rw [hq] at C
    have HQ1 := hid hq
    have HL1 : Hid (l1.length ≤ 1000000) := by have h1 := num_len hq; have h2 := HL0.out; unfold Hid; omega
    clear hq
    refine C.mono ?_
    clear C
    rintro e w1 ⟨rfl, hr, hk⟩
    have HR1 := hid hr
    have HK1 := hid (HK0.out.trans1 hk)
    have hcs := hr.cs
    have cc := hcs.2.2.2.1
    have cf := hr.fz 4
    simp only at cc
    clear hcs hr hk
    skip
    go_wp2_with fail
    have HR1' := hid (HR1.out.set 4 (.int .i64 n1) ⟨l1, ⟨t.y, t.mo, t.d, n1, t.mi, t.s, t.z⟩⟩ rfl)
    have HK1' := hid (HK1.out.trans1 (Kept.setCell [b] w1 ⟨b, 4, none⟩ (.int .i64 n1) (by simp)))
    clear HR1 HK1 cc cf
    have HR1 := HR1'
    have HK1 := HK1'
    clear HR1' HK1'
    generalize w1.setCell ⟨b, 4, none⟩ (.int .i64 n1) = v1 at HR1 HK1 ⊢
    go_wp2_with fail
    have C := need_any HR1.out [58] HL1.out (by simp)
    rcases hq : needP [58] l1 with _ | l2
    · rw [hq] at C
      have HQ2 := hid hq
      refine C.mono ?_
      rintro e w2 ⟨rfl, hk⟩
      refine ⟨rfl, ?_⟩
      change RdOut _ _ _ _ _
      have HP : clockR ⟨l, t⟩ = none := by
        unfold clockR clockP
        simp only [HQ1.out, HQ2.out, Option.bind_some, Option.bind_none, if_true, Bool.false_eq_true, if_false, Option.getD_some, Option.getD_none, Option.map_some, Option.map_none]
      rw [HP]
      exact ⟨rfl, HK1.out.trans1 hk⟩
    · rw [hq] at C
      have HQ2 := hid hq
      have HL2 : Hid (l2.length ≤ 1000000) := by have h1 := need_len hq; have h2 := HL1.out; unfold Hid; omega
      clear hq
      refine C.mono ?_
      clear C
      rintro e w2 ⟨rfl, hr, hk⟩
      have HR2 := hid hr
      have HK2 := hid (HK1.out.trans1 hk)
      clear hr hk
      go_wp2_with fail
      have C := number_any HR2.out HL2.out 2 2 (by omega) (by omega)
      rcases hq : numP 2 2 l2 with _ | ⟨n3, l3⟩
      · rw [hq] at C
        have HQ3 := hid hq
        refine C.mono ?_
        rintro e w3 ⟨rfl, hk⟩
        refine ⟨rfl, ?_⟩
        change RdOut _ _ _ _ _
        have HP : clockR ⟨l, t⟩ = none := by
          unfold clockR clockP
          simp only [HQ1.out, HQ2.out, HQ3.out, Option.bind_some, Option.bind_none, if_true, Bool.false_eq_true, if_false, Option.getD_some, Option.getD_none, Option.map_some, Option.map_none]
        rw [HP]
        exact ⟨rfl, HK2.out.trans1 hk⟩
      · rw [hq] at C
        have HQ3 := hid hq
        have HL3 : Hid (l3.length ≤ 1000000) := by have h1 := num_len hq; have h2 := HL2.out; unfold Hid; omega
        clear hq
        refine C.mono ?_
        clear C
        rintro e w3 ⟨rfl, hr, hk⟩
        have HR3 := hid hr
        have HK3 := hid (HK2.out.trans1 hk)
        have hcs := hr.cs
        have cc := hcs.2.2.2.2.1
        have cf := hr.fz 5
        simp only at cc
        clear hcs hr hk
        skip
        go_wp2_with fail
        have HR3' := hid (HR3.out.set 5 (.int .i64 n3) ⟨l3, ⟨t.y, t.mo, t.d, n1, n3, t.s, t.z⟩⟩ rfl)
        have HK3' := hid (HK3.out.trans1 (Kept.setCell [b] w3 ⟨b, 5, none⟩ (.int .i64 n3) (by simp)))
        clear HR3 HK3 cc cf
        have HR3 := HR3'
        have HK3 := HK3'
        clear HR3' HK3'
        generalize w3.setCell ⟨b, 5, none⟩ (.int .i64 n3) = v3 at HR3 HK3 ⊢
        go_wp2_with fail
        rcases Bool.eq_false_or_eq_true (hasP l3 [58]) with hb | hb
        · have HQ4 := hid hb
          refine (takes_yes HR3.out [58] HL3.out hb).mono ?_
          rintro e w4 ⟨rfl, hr, hk⟩
          have HR4 : Hid (RAt w4 b ⟨(l3.drop 1), ⟨t.y, t.mo, t.d, n1, n3, t.s, t.z⟩⟩) := hr
          have HK4 := hid (HK3.out.trans1 hk)
          have HL4 : Hid ((l3.drop 1).length ≤ 1000000) := by have h2 := HL3.out; unfold Hid; simp; omega
          clear hr hk hb
          go_wp2_with fail
          have C := number_any HR4.out HL4.out 2 2 (by omega) (by omega)
          rcases hq : numP 2 2 (l3.drop 1) with _ | ⟨n5, l5⟩
          · rw [hq] at C
            have HQ5 := hid hq
            refine C.mono ?_
            rintro e w5 ⟨rfl, hk⟩
            refine ⟨rfl, ?_⟩
            change RdOut _ _ _ _ _
            have HP : clockR ⟨l, t⟩ = none := by
              unfold clockR clockP
              simp only [HQ1.out, HQ2.out, HQ3.out, HQ4.out, HQ5.out, Option.bind_some, Option.bind_none, if_true, Bool.false_eq_true, if_false, Option.getD_some, Option.getD_none, Option.map_some, Option.map_none]
            rw [HP]
            exact ⟨rfl, HK4.out.trans1 hk⟩
          · rw [hq] at C
            have HQ5 := hid hq
            have HL5 : Hid (l5.length ≤ 1000000) := by have h1 := num_len hq; have h2 := HL4.out; unfold Hid; omega
            clear hq
            refine C.mono ?_
            clear C
            rintro e w5 ⟨rfl, hr, hk⟩
            have HR5 := hid hr
            have HK5 := hid (HK4.out.trans1 hk)
            have hcs := hr.cs
            have cc := hcs.2.2.2.2.2.1
            have cf := hr.fz 6
            simp only at cc
            clear hcs hr hk
            skip
            go_wp2_with fail
            have HR5' := hid (HR5.out.set 6 (.int .i64 n5) ⟨l5, ⟨t.y, t.mo, t.d, n1, n3, n5, t.z⟩⟩ rfl)
            have HK5' := hid (HK5.out.trans1 (Kept.setCell [b] w5 ⟨b, 6, none⟩ (.int .i64 n5) (by simp)))
            clear HR5 HK5 cc cf
            have HR5 := HR5'
            have HK5 := HK5'
            clear HR5' HK5'
            generalize w5.setCell ⟨b, 6, none⟩ (.int .i64 n5) = v5 at HR5 HK5 ⊢
            go_wp2_with fail
            go_end0
            have HP : clockR ⟨l, t⟩ = some ⟨l5, ⟨t.y, t.mo, t.d, n1, n3, n5, t.z⟩⟩ := by
              unfold clockR clockP
              simp only [HQ1.out, HQ2.out, HQ3.out, HQ4.out, HQ5.out, Option.bind_some, Option.bind_none, if_true, Bool.false_eq_true, if_false, Option.getD_some, Option.getD_none, Option.map_some, Option.map_none]
            rw [HP]
            exact ⟨rfl, HR5.out, HK5.out⟩
        · have HQ4 := hid hb
          refine (takes_no HR3.out [58] HL3.out (by simp) hb).mono ?_
          rintro e w4 ⟨rfl, hr, hk⟩
          have HR4 : Hid (RAt w4 b ⟨l3, ⟨t.y, t.mo, t.d, n1, n3, t.s, t.z⟩⟩) := hr
          have HK4 := hid (HK3.out.trans1 hk)
          have HL4 := HL3
          clear hr hk hb
          go_wp2_with fail
          go_end0
          have HP : clockR ⟨l, t⟩ = some ⟨l3, ⟨t.y, t.mo, t.d, n1, n3, t.s, t.z⟩⟩ := by
            unfold clockR clockP
            simp only [HQ1.out, HQ2.out, HQ3.out, HQ4.out, Option.bind_some, Option.bind_none, if_true, Bool.false_eq_true, if_false, Option.getD_some, Option.getD_none, Option.map_some, Option.map_none]
          rw [HP]
          exact ⟨rfl, HR4.out, HK4.out⟩
set_option maxRecDepth 100000 in
set_option maxHeartbeats 4000000 in
theorem zone_any {w : World} {b : Nat} {l : Bs} {t : Dt} (h : RAt w b ⟨l, t⟩) (h1 : l.length ≤ 1000000) :
    Calls Tryd.prog 64 #[.pointer (some ⟨b, 0, none⟩)] w fun e w' => RdOut (zoneR ⟨l, t⟩) b w e w' := by
  have HR0 := hid h
  have HL0 := hid h1
  have HK0 := hid (Kept.refl [b] w)
  clear h h1
  go_enter Tryd.func64, Tryd.ntmps64
  go_wp2_with fail
  rcases Bool.eq_false_or_eq_true (hasP l [43]) with hb | hb
  · have HQ1 := hid hb
    refine (takes_yes HR0.out [43] HL0.out hb).mono ?_
    rintro e w1 ⟨rfl, hr, hk⟩
    have HR1 : Hid (RAt w1 b ⟨(l.drop 1), t⟩) := hr
    have HK1 := hid (HK0.out.trans1 hk)
    have HL1 : Hid ((l.drop 1).length ≤ 1000000) := by have h2 := HL0.out; unfold Hid; simp; omega
    clear hr hk hb
    go_wp2_with fail
    have C := minutes_any HR1.out HL1.out
    rcases hq : minutesP (l.drop 1) with _ | ⟨n2, l2⟩
    · rw [hq] at C
      have HQ2 := hid hq
      refine C.mono ?_
      rintro e w2 ⟨rfl, hk⟩
      refine ⟨rfl, ?_⟩
      change RdOut _ _ _ _ _
      have HP : zoneR ⟨l, t⟩ = none := by
        unfold zoneR zoneP
        simp only [HQ1.out, HQ2.out, Option.bind_some, Option.bind_none, if_true, Bool.false_eq_true, if_false, Option.getD_some, Option.getD_none, Option.map_some, Option.map_none]
      rw [HP]
      exact ⟨rfl, HK1.out.trans1 hk⟩
    · rw [hq] at C
      have HQ2 := hid hq
      have HL2 : Hid (l2.length ≤ 1000000) := by have h1 := minutes_len hq; have h2 := HL1.out; unfold Hid; omega
      have hz1 := (minutes_range hq).1
      have hz2 := (minutes_range hq).2
      clear hq
      refine C.mono ?_
      clear C
      rintro e w2 ⟨rfl, hr, hk⟩
      have HR2 := hid hr
      have HK2 := hid (HK1.out.trans1 hk)
      have hcs := hr.cs
      have cc := hcs.2.2.2.2.2.2
      have cf := hr.fz 7
      simp only at cc
      clear hcs hr hk
      skip
      go_wp2_with fail
      have HR2' := hid (HR2.out.set 7 (.int .i64 n2) ⟨l2, ⟨t.y, t.mo, t.d, t.h, t.mi, t.s, n2⟩⟩ rfl)
      have HK2' := hid (HK2.out.trans1 (Kept.setCell [b] w2 ⟨b, 7, none⟩ (.int .i64 n2) (by simp)))
      clear HR2 HK2 cc cf
      have HR2 := HR2'
      have HK2 := HK2'
      clear HR2' HK2'
      generalize w2.setCell ⟨b, 7, none⟩ (.int .i64 n2) = v2 at HR2 HK2 ⊢
      go_wp2_with fail
      go_end0
      have HP : zoneR ⟨l, t⟩ = some ⟨l2, ⟨t.y, t.mo, t.d, t.h, t.mi, t.s, n2⟩⟩ := by
        unfold zoneR zoneP
        simp only [HQ1.out, HQ2.out, Option.bind_some, Option.bind_none, if_true, Bool.false_eq_true, if_false, Option.getD_some, Option.getD_none, Option.map_some, Option.map_none]
      rw [HP]
      exact ⟨rfl, HR2.out, HK2.out⟩
  · have HQ1 := hid hb
    refine (takes_no HR0.out [43] HL0.out (by simp) hb).mono ?_
    rintro e w1 ⟨rfl, hr, hk⟩
    have HR1 : Hid (RAt w1 b ⟨l, t⟩) := hr
    have HK1 := hid (HK0.out.trans1 hk)
    have HL1 := HL0
    clear hr hk hb
    go_wp2_with fail
    rcases Bool.eq_false_or_eq_true (hasP l [45]) with hb | hb
    · have HQ2 := hid hb
      refine (takes_yes HR1.out [45] HL1.out hb).mono ?_
      rintro e w2 ⟨rfl, hr, hk⟩
      have HR2 : Hid (RAt w2 b ⟨(l.drop 1), t⟩) := hr
      have HK2 := hid (HK1.out.trans1 hk)
      have HL2 : Hid ((l.drop 1).length ≤ 1000000) := by have h2 := HL1.out; unfold Hid; simp; omega
      clear hr hk hb
      go_wp2_with fail
      have C := minutes_any HR2.out HL2.out
      rcases hq : minutesP (l.drop 1) with _ | ⟨n3, l3⟩
      · rw [hq] at C
        have HQ3 := hid hq
        refine C.mono ?_
        rintro e w3 ⟨rfl, hk⟩
        refine ⟨rfl, ?_⟩
        change RdOut _ _ _ _ _
        have HP : zoneR ⟨l, t⟩ = none := by
          unfold zoneR zoneP
          simp only [HQ1.out, HQ2.out, HQ3.out, Option.bind_some, Option.bind_none, if_true, Bool.false_eq_true, if_false, Option.getD_some, Option.getD_none, Option.map_some, Option.map_none]
        rw [HP]
        exact ⟨rfl, HK2.out.trans1 hk⟩
      · rw [hq] at C
        have HQ3 := hid hq
        have HL3 : Hid (l3.length ≤ 1000000) := by have h1 := minutes_len hq; have h2 := HL2.out; unfold Hid; omega
        have hz1 := (minutes_range hq).1
        have hz2 := (minutes_range hq).2
        clear hq
        refine C.mono ?_
        clear C
        rintro e w3 ⟨rfl, hr, hk⟩
        have HR3 := hid hr
        have HK3 := hid (HK2.out.trans1 hk)
        have hcs := hr.cs
        have cc := hcs.2.2.2.2.2.2
        have cf := hr.fz 7
        simp only at cc
        clear hcs hr hk
        skip
        go_wp2_with fail
        have HR3' := hid (HR3.out.set 7 (.int .i64 (-n3)) ⟨l3, ⟨t.y, t.mo, t.d, t.h, t.mi, t.s, (-n3)⟩⟩ rfl)
        have HK3' := hid (HK3.out.trans1 (Kept.setCell [b] w3 ⟨b, 7, none⟩ (.int .i64 (-n3)) (by simp)))
        clear HR3 HK3 cc cf
        have HR3 := HR3'
        have HK3 := HK3'
        clear HR3' HK3'
        generalize w3.setCell ⟨b, 7, none⟩ (.int .i64 (-n3)) = v3 at HR3 HK3 ⊢
        go_wp2_with fail
        go_end0
        have HP : zoneR ⟨l, t⟩ = some ⟨l3, ⟨t.y, t.mo, t.d, t.h, t.mi, t.s, (-n3)⟩⟩ := by
          unfold zoneR zoneP
          simp only [HQ1.out, HQ2.out, HQ3.out, Option.bind_some, Option.bind_none, if_true, Bool.false_eq_true, if_false, Option.getD_some, Option.getD_none, Option.map_some, Option.map_none]
        rw [HP]
        exact ⟨rfl, HR3.out, HK3.out⟩
    · have HQ2 := hid hb
      refine (takes_no HR1.out [45] HL1.out (by simp) hb).mono ?_
      rintro e w2 ⟨rfl, hr, hk⟩
      have HR2 : Hid (RAt w2 b ⟨l, t⟩) := hr
      have HK2 := hid (HK1.out.trans1 hk)
      have HL2 := HL1
      clear hr hk hb
      go_wp2_with fail
      rcases Bool.eq_false_or_eq_true (hasP l [71, 77, 84]) with hb | hb
      · have HQ3 := hid hb
        refine (takes_yes HR2.out [71, 77, 84] HL2.out hb).mono ?_
        rintro e w3 ⟨rfl, hr, hk⟩
        have HR3 : Hid (RAt w3 b ⟨(l.drop 3), t⟩) := hr
        have HK3 := hid (HK2.out.trans1 hk)
        have HL3 : Hid ((l.drop 3).length ≤ 1000000) := by have h2 := HL2.out; unfold Hid; simp; omega
        clear hr hk hb
        have hcs := HR3.out.cs
        have cc := hcs.2.2.2.2.2.2
        have cf := HR3.out.fz 7
        simp only at cc
        clear hcs
        go_wp2_with fail
        have HR4 := hid (HR3.out.set 7 (.int .i64 0) ⟨(l.drop 3), ⟨t.y, t.mo, t.d, t.h, t.mi, t.s, 0⟩⟩ rfl)
        have HK4 := hid (HK3.out.trans1 (Kept.setCell [b] w3 ⟨b, 7, none⟩ (.int .i64 0) (by simp)))
        have HL4 := HL3
        go_end0
        have HP : zoneR ⟨l, t⟩ = some ⟨(l.drop 3), ⟨t.y, t.mo, t.d, t.h, t.mi, t.s, 0⟩⟩ := by
          unfold zoneR zoneP
          simp only [HQ1.out, HQ2.out, HQ3.out, Option.bind_some, Option.bind_none, if_true, Bool.false_eq_true, if_false, Option.getD_some, Option.getD_none, Option.map_some, Option.map_none]
        rw [HP]
        exact ⟨rfl, HR4.out, HK4.out⟩
      · have HQ3 := hid hb
        refine (takes_no HR2.out [71, 77, 84] HL2.out (by simp) hb).mono ?_
        rintro e w3 ⟨rfl, hr, hk⟩
        have HR3 : Hid (RAt w3 b ⟨l, t⟩) := hr
        have HK3 := hid (HK2.out.trans1 hk)
        have HL3 := HL2
        clear hr hk hb
        go_wp2_with fail
        rcases Bool.eq_false_or_eq_true (hasP l [85, 84]) with hb | hb
        · have HQ4 := hid hb
          refine (takes_yes HR3.out [85, 84] HL3.out hb).mono ?_
          rintro e w4 ⟨rfl, hr, hk⟩
          have HR4 : Hid (RAt w4 b ⟨(l.drop 2), t⟩) := hr
          have HK4 := hid (HK3.out.trans1 hk)
          have HL4 : Hid ((l.drop 2).length ≤ 1000000) := by have h2 := HL3.out; unfold Hid; simp; omega
          clear hr hk hb
          have hcs := HR4.out.cs
          have cc := hcs.2.2.2.2.2.2
          have cf := HR4.out.fz 7
          simp only at cc
          clear hcs
          go_wp2_with fail
          have HR5 := hid (HR4.out.set 7 (.int .i64 0) ⟨(l.drop 2), ⟨t.y, t.mo, t.d, t.h, t.mi, t.s, 0⟩⟩ rfl)
          have HK5 := hid (HK4.out.trans1 (Kept.setCell [b] w4 ⟨b, 7, none⟩ (.int .i64 0) (by simp)))
          have HL5 := HL4
          go_end0
          have HP : zoneR ⟨l, t⟩ = some ⟨(l.drop 2), ⟨t.y, t.mo, t.d, t.h, t.mi, t.s, 0⟩⟩ := by
            unfold zoneR zoneP
            simp only [HQ1.out, HQ2.out, HQ3.out, HQ4.out, Option.bind_some, Option.bind_none, if_true, Bool.false_eq_true, if_false, Option.getD_some, Option.getD_none, Option.map_some, Option.map_none]
          rw [HP]
          exact ⟨rfl, HR5.out, HK5.out⟩
        · have HQ4 := hid hb
          refine (takes_no HR3.out [85, 84] HL3.out (by simp) hb).mono ?_
          rintro e w4 ⟨rfl, hr, hk⟩
          have HR4 : Hid (RAt w4 b ⟨l, t⟩) := hr
          have HK4 := hid (HK3.out.trans1 hk)
          have HL4 := HL3
          clear hr hk hb
          go_wp2_with fail
          refine (stop_any _).mono ?_
          rintro e w5 ⟨rfl, rfl⟩
          refine ⟨rfl, ?_⟩
          change RdOut _ _ _ _ _
          have HP : zoneR ⟨l, t⟩ = none := by
            unfold zoneR zoneP
            simp only [HQ1.out, HQ2.out, HQ3.out, HQ4.out, Option.bind_some, Option.bind_none, if_true, Bool.false_eq_true, if_false, Option.getD_some, Option.getD_none, Option.map_some, Option.map_none]
          rw [HP]
          exact ⟨rfl, HK4.out⟩
end Go.Proofs.YtnjdgbbdjkhpoaaDoor
