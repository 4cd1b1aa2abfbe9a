/- What this text holds: the program's reader: internal. (Written by genr.py.) -/
import Derived.Test.YtnjdgbbdjkhpoaaDoorS8
namespace Go.Proofs.YtnjdgbbdjkhpoaaDoor
open Go.RowKit
set_option linter.unusedVariables false
set_option linter.unusedSimpArgs false

theorem day_len {l l' : Bs} {t t' : Dt} (h : dayP ⟨l, t⟩ = some ⟨l', t'⟩) : l'.length ≤ l.length := by
  unfold dayP at h
  repeat (split at h <;> try (cases h; done))
  simp only [Option.some.injEq, Rd.mk.injEq] at h
  obtain ⟨rfl, -⟩ := h
  rename_i e1 _ _ e2 _ _ _ e3 _ _ e4 _ _ _ e5
  have h1 := num_len e1
  have h2 := need_len e2
  have h3 := month_len e3
  have h4 := need_len e4
  have h5 := num_len e5
  simp only at *
  omega
theorem clockP_len {l l' : Bs} {x : Int × Int × Option Int} (h : clockP l = some (x, l')) : l'.length ≤ l.length := by
  unfold clockP at h
  rcases e1 : numP 2 2 l with _ | ⟨n1, l1⟩ <;> rw [e1] at h
  · cases h
  simp only at h
  rcases e2 : needP [58] l1 with _ | l2 <;> rw [e2] at h
  · cases h
  simp only at h
  rcases e3 : numP 2 2 l2 with _ | ⟨n3, l3⟩ <;> rw [e3] at h
  · cases h
  simp only at h
  have h1 := num_len e1
  have h2 := need_len e2
  have h3 := num_len e3
  split at h
  · rcases e4 : numP 2 2 (l3.drop 1) with _ | ⟨n4, l4⟩ <;> rw [e4] at h
    · cases h
    simp only [Option.some.injEq, Prod.mk.injEq] at h
    obtain ⟨_, rfl⟩ := h
    have h4 := num_len e4
    simp at h4
    omega
  · simp only [Option.some.injEq, Prod.mk.injEq] at h
    obtain ⟨_, rfl⟩ := h
    omega
theorem clock_len {l l' : Bs} {t t' : Dt} (h : clockR ⟨l, t⟩ = some ⟨l', t'⟩) : l'.length ≤ l.length := by
  unfold clockR at h
  simp only at h
  rcases e : clockP l with _ | ⟨x, l1⟩ <;> rw [e] at h
  · cases h
  simp only [Option.some.injEq, Rd.mk.injEq] at h
  obtain ⟨rfl, _⟩ := h
  exact clockP_len e
theorem zoneP_len {l l' : Bs} {z : Int} (h : zoneP l = some (z, l')) : l'.length ≤ l.length := by
  unfold zoneP at h
  split at h
  · have := minutes_len h
    simp at this
    omega
  split at h
  · rcases e : minutesP (l.drop 1) with _ | ⟨n, l1⟩ <;> rw [e] at h
    · cases h
    simp at h
    obtain ⟨_, rfl⟩ := h
    have := minutes_len e
    simp at this
    omega
  split at h
  · simp at h; obtain ⟨_, rfl⟩ := h; simp
  split at h
  · simp at h; obtain ⟨_, rfl⟩ := h; simp
  · cases h
theorem zone_len {l l' : Bs} {t t' : Dt} (h : zoneR ⟨l, t⟩ = some ⟨l', t'⟩) : l'.length ≤ l.length := by
  unfold zoneR at h
  simp only at h
  rcases e : zoneP l with _ | ⟨x, l1⟩ <;> rw [e] at h
  · cases h
  simp only [Option.some.injEq, Rd.mk.injEq] at h
  obtain ⟨rfl, _⟩ := h
  exact zoneP_len e

set_option maxRecDepth 100000 in
set_option maxHeartbeats 4000000 in
theorem internal_any {w : World} {b : Nat} {l : Bs} {t : Dt} (h : RAt w b ⟨l, t⟩) (h1 : l.length ≤ 1000000) :
    Calls Tryd.prog 42 #[.pointer (some ⟨b, 0, none⟩)] w fun e w' => RdOut (internalP ⟨l, t⟩) b w e w' := by
  have HR0 := hid h
  have HL0 := hid h1
  have HK0 := hid (Kept.refl [b] w)
  clear h h1
  go_enter Tryd.func42, Tryd.ntmps42
  go_wp2_with fail
  refine (blanks_any HR0.out HL0.out).mono ?_
  rintro e w1 ⟨rfl, hr, hk⟩
  have HR1 := hid hr
  have HK1 := hid (HK0.out.trans1 hk)
  have HL1 : Hid ((l.dropWhile blankB).length ≤ 1000000) := by have h1 := dw_len l; have h2 := HL0.out; unfold Hid; omega
  clear hr hk
  go_wp2_with fail
  have C := day_any HR1.out HL1.out
  rcases hq : dayP ⟨(l.dropWhile blankB), t⟩ with _ | ⟨l2, t2⟩
  · rw [hq] at C
    have HQ2 := hid hq
    refine C.mono ?_
    rintro e w2 ⟨rfl, hk⟩
    refine ⟨rfl, ?_⟩
    change RdOut _ _ _ _ _
    have HP : internalP ⟨l, t⟩ = none := by
      unfold internalP gapR
      simp only [HQ2.out, Option.bind_some, Option.bind_none, if_true, Bool.false_eq_true, if_false, Option.getD_some, Option.getD_none, Option.map_some, Option.map_none]
    rw [HP]
    exact ⟨rfl, HK1.out.trans1 hk⟩
  · rw [hq] at C
    have HQ2 := hid hq
    have HL2 : Hid (l2.length ≤ 1000000) := by have h1 := day_len hq; have h2 := HL1.out; unfold Hid; omega
    clear hq
    refine C.mono ?_
    clear C
    rintro e w2 ⟨rfl, hr, hk⟩
    have HR2 := hid hr
    have HK2 := hid (HK1.out.trans1 hk)
    clear hr hk
    go_wp2_with fail
    have C := gap_any HR2.out HL2.out
    rcases hq : gapP l2 with _ | l3
    · rw [hq] at C
      have HQ3 := hid hq
      refine C.mono ?_
      rintro e w3 ⟨rfl, hk⟩
      refine ⟨rfl, ?_⟩
      change RdOut _ _ _ _ _
      have HP : internalP ⟨l, t⟩ = none := by
        unfold internalP gapR
        simp only [HQ2.out, HQ3.out, Option.bind_some, Option.bind_none, if_true, Bool.false_eq_true, if_false, Option.getD_some, Option.getD_none, Option.map_some, Option.map_none]
      rw [HP]
      exact ⟨rfl, HK2.out.trans1 hk⟩
    · rw [hq] at C
      have HQ3 := hid hq
      have HL3 : Hid (l3.length ≤ 1000000) := by have h1 := gap_len hq; have h2 := HL2.out; unfold Hid; omega
      clear hq
      refine C.mono ?_
      clear C
      rintro e w3 ⟨rfl, hr, hk⟩
      have HR3 := hid hr
      have HK3 := hid (HK2.out.trans1 hk)
      clear hr hk
      go_wp2_with fail
      have C := clock_any HR3.out HL3.out
      rcases hq : clockR ⟨l3, t2⟩ with _ | ⟨l4, t4⟩
      · rw [hq] at C
        have HQ4 := hid hq
        refine C.mono ?_
        rintro e w4 ⟨rfl, hk⟩
        refine ⟨rfl, ?_⟩
        change RdOut _ _ _ _ _
        have HP : internalP ⟨l, t⟩ = none := by
          unfold internalP gapR
          simp only [HQ2.out, HQ3.out, HQ4.out, Option.bind_some, Option.bind_none, if_true, Bool.false_eq_true, if_false, Option.getD_some, Option.getD_none, Option.map_some, Option.map_none]
        rw [HP]
        exact ⟨rfl, HK3.out.trans1 hk⟩
      · rw [hq] at C
        have HQ4 := hid hq
        have HL4 : Hid (l4.length ≤ 1000000) := by have h1 := clock_len hq; have h2 := HL3.out; unfold Hid; omega
        clear hq
        refine C.mono ?_
        clear C
        rintro e w4 ⟨rfl, hr, hk⟩
        have HR4 := hid hr
        have HK4 := hid (HK3.out.trans1 hk)
        clear hr hk
        go_wp2_with fail
        have C := gap_any HR4.out HL4.out
        rcases hq : gapP l4 with _ | l5
        · rw [hq] at C
          have HQ5 := hid hq
          refine C.mono ?_
          rintro e w5 ⟨rfl, hk⟩
          refine ⟨rfl, ?_⟩
          change RdOut _ _ _ _ _
          have HP : internalP ⟨l, t⟩ = none := by
            unfold internalP gapR
            simp only [HQ2.out, HQ3.out, HQ4.out, HQ5.out, Option.bind_some, Option.bind_none, if_true, Bool.false_eq_true, if_false, Option.getD_some, Option.getD_none, Option.map_some, Option.map_none]
          rw [HP]
          exact ⟨rfl, HK4.out.trans1 hk⟩
        · rw [hq] at C
          have HQ5 := hid hq
          have HL5 : Hid (l5.length ≤ 1000000) := by have h1 := gap_len hq; have h2 := HL4.out; unfold Hid; omega
          clear hq
          refine C.mono ?_
          clear C
          rintro e w5 ⟨rfl, hr, hk⟩
          have HR5 := hid hr
          have HK5 := hid (HK4.out.trans1 hk)
          clear hr hk
          go_wp2_with fail
          have C := zone_any HR5.out HL5.out
          rcases hq : zoneR ⟨l5, t4⟩ with _ | ⟨l6, t6⟩
          · rw [hq] at C
            have HQ6 := hid hq
            refine C.mono ?_
            rintro e w6 ⟨rfl, hk⟩
            refine ⟨rfl, ?_⟩
            change RdOut _ _ _ _ _
            have HP : internalP ⟨l, t⟩ = none := by
              unfold internalP gapR
              simp only [HQ2.out, HQ3.out, HQ4.out, HQ5.out, HQ6.out, Option.bind_some, Option.bind_none, if_true, Bool.false_eq_true, if_false, Option.getD_some, Option.getD_none, Option.map_some, Option.map_none]
            rw [HP]
            exact ⟨rfl, HK5.out.trans1 hk⟩
          · rw [hq] at C
            have HQ6 := hid hq
            have HL6 : Hid (l6.length ≤ 1000000) := by have h1 := zone_len hq; have h2 := HL5.out; unfold Hid; omega
            clear hq
            refine C.mono ?_
            clear C
            rintro e w6 ⟨rfl, hr, hk⟩
            have HR6 := hid hr
            have HK6 := hid (HK5.out.trans1 hk)
            clear hr hk
            go_wp2_with fail
            go_end0
            have HP : internalP ⟨l, t⟩ = some ⟨l6, t6⟩ := by
              unfold internalP gapR
              simp only [HQ2.out, HQ3.out, HQ4.out, HQ5.out, HQ6.out, Option.bind_some, Option.bind_none, if_true, Bool.false_eq_true, if_false, Option.getD_some, Option.getD_none, Option.map_some, Option.map_none]
            rw [HP]
            exact ⟨rfl, HR6.out, HK6.out⟩
end Go.Proofs.YtnjdgbbdjkhpoaaDoor
