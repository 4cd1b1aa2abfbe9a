/- What this text holds: the program's reader: day. (Written by genr.py.) -/
import Derived.Test.YtnjdgbbdjkhpoaaDoorS6
namespace Go.Proofs.YtnjdgbbdjkhpoaaDoor
open Go.RowKit
set_option linter.unusedVariables false
set_option linter.unusedSimpArgs false

theorem month_len {l l' : Bs} {n : Int} (h : monthP l = some (n, l')) : l'.length ≤ l.length := by
  unfold monthP at h
  split at h
  · cases h; simp
  · cases h
theorem weekday_len {l l' : Bs} (h : weekdayP l = some l') : l'.length ≤ l.length := by
  unfold weekdayP at h
  split at h
  · rcases hq : needP [44] (l.drop 3) with _ | l1
    · rw [hq] at h; cases h
    · rw [hq] at h
      have h1 := need_len hq
      have h2 := gap_len h
      simp at h1
      omega
  · cases h; simp
theorem minutes_both {l l' : Bs} {n : Int} (h : minutesP l = some (n, l')) : l'.length ≤ l.length ∧ 0 ≤ n ∧ n ≤ 1439 := by
  unfold minutesP at h
  split at h
  · rename_i h1 r1 e1
    split at h
    · rename_i h2 r2 e2
      cases h
      have := upTo_len e1
      have := upTo_len e2
      omega
    · cases h
  · cases h
theorem minutes_len {l l' : Bs} {n : Int} (h : minutesP l = some (n, l')) : l'.length ≤ l.length := (minutes_both h).1
theorem minutes_range {l l' : Bs} {n : Int} (h : minutesP l = some (n, l')) : 0 ≤ n ∧ n ≤ 1439 := (minutes_both h).2
/-- The reader as it stands behind a call, or a stop. -/
def RdOut (o : Option Rd) (b : Nat) (w : World) (e : Ending) (w' : World) : Prop :=
  match o with
  | some s => e = .returned (.tuple #[]) ∧ RAt w' b s ∧ Kept [b] w w'
  | none => e = .panicked faultC ∧ Kept [b] w w'

set_option maxRecDepth 100000 in
set_option maxHeartbeats 4000000 in
theorem day_any {w : World} {b : Nat} {l : Bs} {t : Dt} (h : RAt w b ⟨l, t⟩) (h1 : l.length ≤ 1000000) :
    Calls Tryd.prog 55 #[.pointer (some ⟨b, 0, none⟩)] w fun e w' => RdOut (dayP ⟨l, t⟩) b w e w' := by
  have HR0 := hid h
  have HL0 := hid h1
  have HK0 := hid (Kept.refl [b] w)
  clear h h1
  go_enter Tryd.func55, Tryd.ntmps55
  go_wp2_with fail
  have C := number_any HR0.out HL0.out 1 2 (by omega) (by omega)
  rcases hq : numP 1 2 l with _ | ⟨n1, l1⟩
  · rw [hq] at C
    have HQ1 := hid hq
    refine C.mono ?_
    rintro e w1 ⟨rfl, hk⟩
    refine ⟨rfl, ?_⟩
    change RdOut _ _ _ _ _
    have HP : dayP ⟨l, t⟩ = none := by
      unfold dayP
      simp only [HQ1.out, Option.bind_some, Option.bind_none, if_true, Bool.false_eq_true, if_false, Option.getD_some, Option.getD_none, Option.map_some, Option.map_none]
    rw [HP]
    exact ⟨rfl, HK0.out.trans1 hk⟩
  · rw [hq] at C
    have HQ1 := hid hq
    have HL1 : Hid (l1.length ≤ 1000000) := by have h1 := num_len hq; have h2 := HL0.out; unfold Hid; omega
    clear hq
    refine C.mono ?_
    clear C
    rintro e w1 ⟨rfl, hr, hk⟩
    have HR1 := hid hr
    have HK1 := hid (HK0.out.trans1 hk)
    have hcs := hr.cs
    have cc := hcs.2.2.1
    have cf := hr.fz 3
    simp only at cc
    clear hcs hr hk
    skip
    go_wp2_with fail
    have HR1' := hid (HR1.out.set 3 (.int .i64 n1) ⟨l1, ⟨t.y, t.mo, n1, t.h, t.mi, t.s, t.z⟩⟩ rfl)
    have HK1' := hid (HK1.out.trans1 (Kept.setCell [b] w1 ⟨b, 3, none⟩ (.int .i64 n1) (by simp)))
    clear HR1 HK1 cc cf
    have HR1 := HR1'
    have HK1 := HK1'
    clear HR1' HK1'
    generalize w1.setCell ⟨b, 3, none⟩ (.int .i64 n1) = v1 at HR1 HK1 ⊢
    go_wp2_with fail
    have C := need_any HR1.out [45] HL1.out (by simp)
    rcases hq : needP [45] l1 with _ | l2
    · rw [hq] at C
      have HQ2 := hid hq
      refine C.mono ?_
      rintro e w2 ⟨rfl, hk⟩
      refine ⟨rfl, ?_⟩
      change RdOut _ _ _ _ _
      have HP : dayP ⟨l, t⟩ = none := by
        unfold dayP
        simp only [HQ1.out, HQ2.out, Option.bind_some, Option.bind_none, if_true, Bool.false_eq_true, if_false, Option.getD_some, Option.getD_none, Option.map_some, Option.map_none]
      rw [HP]
      exact ⟨rfl, HK1.out.trans1 hk⟩
    · rw [hq] at C
      have HQ2 := hid hq
      have HL2 : Hid (l2.length ≤ 1000000) := by have h1 := need_len hq; have h2 := HL1.out; unfold Hid; omega
      clear hq
      refine C.mono ?_
      clear C
      rintro e w2 ⟨rfl, hr, hk⟩
      have HR2 := hid hr
      have HK2 := hid (HK1.out.trans1 hk)
      clear hr hk
      go_wp2_with fail
      have C := month_any HR2.out HL2.out
      rcases hq : monthP l2 with _ | ⟨n3, l3⟩
      · rw [hq] at C
        have HQ3 := hid hq
        refine C.mono ?_
        rintro e w3 ⟨rfl, hk⟩
        refine ⟨rfl, ?_⟩
        change RdOut _ _ _ _ _
        have HP : dayP ⟨l, t⟩ = none := by
          unfold dayP
          simp only [HQ1.out, HQ2.out, HQ3.out, Option.bind_some, Option.bind_none, if_true, Bool.false_eq_true, if_false, Option.getD_some, Option.getD_none, Option.map_some, Option.map_none]
        rw [HP]
        exact ⟨rfl, HK2.out.trans1 hk⟩
      · rw [hq] at C
        have HQ3 := hid hq
        have HL3 : Hid (l3.length ≤ 1000000) := by have h1 := month_len hq; have h2 := HL2.out; unfold Hid; omega
        clear hq
        refine C.mono ?_
        clear C
        rintro e w3 ⟨rfl, hr, hk⟩
        have HR3 := hid hr
        have HK3 := hid (HK2.out.trans1 hk)
        have hcs := hr.cs
        have cc := hcs.2.1
        have cf := hr.fz 2
        simp only at cc
        clear hcs hr hk
        skip
        go_wp2_with fail
        have HR3' := hid (HR3.out.set 2 (.int .i64 n3) ⟨l3, ⟨t.y, n3, n1, t.h, t.mi, t.s, t.z⟩⟩ rfl)
        have HK3' := hid (HK3.out.trans1 (Kept.setCell [b] w3 ⟨b, 2, none⟩ (.int .i64 n3) (by simp)))
        clear HR3 HK3 cc cf
        have HR3 := HR3'
        have HK3 := HK3'
        clear HR3' HK3'
        generalize w3.setCell ⟨b, 2, none⟩ (.int .i64 n3) = v3 at HR3 HK3 ⊢
        go_wp2_with fail
        have C := need_any HR3.out [45] HL3.out (by simp)
        rcases hq : needP [45] l3 with _ | l4
        · rw [hq] at C
          have HQ4 := hid hq
          refine C.mono ?_
          rintro e w4 ⟨rfl, hk⟩
          refine ⟨rfl, ?_⟩
          change RdOut _ _ _ _ _
          have HP : dayP ⟨l, t⟩ = none := by
            unfold dayP
            simp only [HQ1.out, HQ2.out, HQ3.out, HQ4.out, Option.bind_some, Option.bind_none, if_true, Bool.false_eq_true, if_false, Option.getD_some, Option.getD_none, Option.map_some, Option.map_none]
          rw [HP]
          exact ⟨rfl, HK3.out.trans1 hk⟩
        · rw [hq] at C
          have HQ4 := hid hq
          have HL4 : Hid (l4.length ≤ 1000000) := by have h1 := need_len hq; have h2 := HL3.out; unfold Hid; omega
          clear hq
          refine C.mono ?_
          clear C
          rintro e w4 ⟨rfl, hr, hk⟩
          have HR4 := hid hr
          have HK4 := hid (HK3.out.trans1 hk)
          clear hr hk
          go_wp2_with fail
          have C := number_any HR4.out HL4.out 4 4 (by omega) (by omega)
          rcases hq : numP 4 4 l4 with _ | ⟨n5, l5⟩
          · rw [hq] at C
            have HQ5 := hid hq
            refine C.mono ?_
            rintro e w5 ⟨rfl, hk⟩
            refine ⟨rfl, ?_⟩
            change RdOut _ _ _ _ _
            have HP : dayP ⟨l, t⟩ = none := by
              unfold dayP
              simp only [HQ1.out, HQ2.out, HQ3.out, HQ4.out, HQ5.out, Option.bind_some, Option.bind_none, if_true, Bool.false_eq_true, if_false, Option.getD_some, Option.getD_none, Option.map_some, Option.map_none]
            rw [HP]
            exact ⟨rfl, HK4.out.trans1 hk⟩
          · rw [hq] at C
            have HQ5 := hid hq
            have HL5 : Hid (l5.length ≤ 1000000) := by have h1 := num_len hq; have h2 := HL4.out; unfold Hid; omega
            clear hq
            refine C.mono ?_
            clear C
            rintro e w5 ⟨rfl, hr, hk⟩
            have HR5 := hid hr
            have HK5 := hid (HK4.out.trans1 hk)
            have hcs := hr.cs
            have cc := hcs.1
            have cf := hr.fz 1
            simp only at cc
            clear hcs hr hk
            skip
            go_wp2_with fail
            have HR5' := hid (HR5.out.set 1 (.int .i64 n5) ⟨l5, ⟨n5, n3, n1, t.h, t.mi, t.s, t.z⟩⟩ rfl)
            have HK5' := hid (HK5.out.trans1 (Kept.setCell [b] w5 ⟨b, 1, none⟩ (.int .i64 n5) (by simp)))
            clear HR5 HK5 cc cf
            have HR5 := HR5'
            have HK5 := HK5'
            clear HR5' HK5'
            generalize w5.setCell ⟨b, 1, none⟩ (.int .i64 n5) = v5 at HR5 HK5 ⊢
            go_wp2_with fail
            go_end0
            have HP : dayP ⟨l, t⟩ = some ⟨l5, ⟨n5, n3, n1, t.h, t.mi, t.s, t.z⟩⟩ := by
              unfold dayP
              simp only [HQ1.out, HQ2.out, HQ3.out, HQ4.out, HQ5.out, Option.bind_some, Option.bind_none, if_true, Bool.false_eq_true, if_false, Option.getD_some, Option.getD_none, Option.map_some, Option.map_none]
            rw [HP]
            exact ⟨rfl, HR5.out, HK5.out⟩
end Go.Proofs.YtnjdgbbdjkhpoaaDoor
