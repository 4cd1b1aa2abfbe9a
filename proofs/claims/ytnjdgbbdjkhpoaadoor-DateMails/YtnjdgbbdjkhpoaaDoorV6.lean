/- What this text holds: the program's Day and Internal. -/
import Derived.Test.YtnjdgbbdjkhpoaaDoorV5
namespace Go.Proofs.YtnjdgbbdjkhpoaaDoor
open Go.RowKit
set_option linter.unusedVariables false
set_option linter.unusedSimpArgs false

def dayV (o : Option Dt) : Value := .tuple #[.int .i64 (daysV (ansT o).y (ansT o).mo (ansT o).d), .int .i64 (ansE o)]
set_option maxRecDepth 100000 in
set_option maxHeartbeats 2000000 in
theorem dayn_any (s : Bs) (hs : s.length ≤ 1000000) (w : World) : Calls Tryd.prog 28 #[.string (str s)] w fun e w' => e = .returned (dayV (readP dayP s)) ∧ Below w.heap.size w w' := by
  have C := read_day s hs w
  rw [readV_eq] at C
  unfold dayV
  generalize ansT (readP dayP s) = t at C ⊢
  generalize ansE (readP dayP s) = x at C ⊢
  obtain ⟨y, mo, d, h, mi, s', z⟩ := t
  have HC := hid C
  clear C
  unfold dtL at HC
  simp only at HC ⊢
  go_enter Tryd.func28, Tryd.ntmps28
  go_wp2_with fail
  refine HC.out.mono ?_
  rintro e w1 ⟨rfl, hb1⟩
  have HB := hid (hb1.alloc hb1.size (.cells (dtL ⟨y, mo, d, h, mi, s', z⟩).toArray 29))
  clear hb1
  go_wp2_with (go_at_call 12; refine (days_any _ _ _ _).mono ?_; rintro e w2 ⟨rfl, rfl⟩)
  go_ret2
  exact ⟨rfl, HB.out⟩

/-- Which date a text is, as the program answers. -/
def internalV (s : Bs) : Option Dt := match readP internalP s with
  | some t => if printV t = s then some t else none
  | none => none
theorem str_eq (l m : Bs) : ((str l).toList == (str m).toList) = decide (l = m) := by
  rw [toList_str, toList_str, Bool.eq_iff_iff]
  simp
set_option maxRecDepth 100000 in
set_option maxHeartbeats 2000000 in
theorem internals_any (s : Bs) (hs : s.length ≤ 1000000) {w : World} (hE : Env w) : Calls Tryd.prog 21 #[.string (str s)] w fun e w' => e = .returned (readV (internalV s)) ∧ Below w.heap.size w w' := by
  have hA := boxed0 Dt.zero w
  have HA := hid hA
  have HB : Hid (Below w.heap.size w (w.alloc (.cells (dtL Dt.zero).toArray 29))) := (Below.refl _ _).alloc (Nat.le_refl _) _
  have C := read_internal s hs (w.alloc (.cells (dtL Dt.zero).toArray 29))
  have HE := hid hE
  clear hA hE
  rcases ho : readP internalP s with _ | t
  · have HV : Hid (internalV s = none) := by unfold Hid internalV; rw [ho]
    rw [ho] at C
    have HC := hid C
    clear C ho
    unfold readV dtV dtL at HC
    simp only at HC
    go_enter Tryd.func21, Tryd.ntmps21
    go_wp2_with fail
    refine HC.out.mono ?_
    rintro e w1 ⟨rfl, hb1⟩
    have hA1 := (hb1.block w.heap.size (by simp)).trans HA.out
    have hlt := lt_of_some hA1
    have HB1 := hid (HB.out.trans (hb1.mono (by simp)))
    obtain ⟨a0, a1, a2, a3, a4, a5, a6⟩ := cA_load hA1
    have fA : ∀ k, w1.frozen? ⟨w.heap.size, k, none⟩ = false := fun k => by simp [World.frozen?, hA1]
    have HA1 := hid hA1
    clear hA1 hb1
    go_wp2_with fail
    obtain ⟨x1, x2, x3⟩ := putD_is w1 w.heap.size Dt.zero Dt.zero HA1.out
    have hb := below_kept HB1.out x3 (by simp) HB1.out.size
    refine bodyPost_ret (w := (putD w1 w.heap.size Dt.zero).alloc (.cells (dtL Dt.zero).toArray 29)) (results21_run _ rfl rfl ((Below.heap_alloc _ _ _ (by rw [x2]; exact hlt)).trans x1)) rfl ?_
    rw [HV.out]
    exact ⟨rfl, hb.alloc hb.size _⟩
  · rw [ho] at C
    have HC := hid C
    clear C
    unfold readV at HC
    simp only at HC
    have HPR : Hid (∀ w, Env w → Calls Tryd.prog 23 #[dtV t] w fun e w' => e = .returned (.string (str (printV t))) ∧ Below w.heap.size w w') := fun w h => print_any t h
    have hdt : dtV t = .agg #[.int .i64 t.y, .int .i64 t.mo, .int .i64 t.d, .int .i64 t.h, .int .i64 t.mi, .int .i64 t.s, .int .i64 t.z] := rfl
    rw [hdt] at HC HPR
    by_cases hp : printV t = s
    · have HV : Hid (internalV s = some t) := by unfold Hid internalV; rw [ho]; simp [hp]
      have hq : ((str (printV t)).toList == (str s).toList) = true := by rw [str_eq]; simp [hp]
      clear ho hp hdt
      go_enter Tryd.func21, Tryd.ntmps21
      go_wp2_with fail
      refine HC.out.mono ?_
      rintro e w1 ⟨rfl, hb1⟩
      have HBE := hid hb1
      have HE2 : Hid (Env (w1.alloc (.cells (dtL t).toArray 29))) := (HE.out.later (HB.out.trans (hb1.mono (by simp)))).later ((Below.refl _ _).alloc (Nat.le_refl _) _)
      have hA1 := (hb1.block w.heap.size (by simp)).trans HA.out
      have HLT := hid (lt_of_some hA1)
      have HB1 := hid (HB.out.trans (hb1.mono (by simp)))
      have HA1 := hid hA1
      clear hA1 hb1
      go_wp2_with fail
      refine (HPR.out _ HE2.out).mono ?_
      rintro e w2 ⟨rfl, hb2⟩
      have hA2 := (hb2.block w.heap.size (by simp; have := HLT.out; omega)).trans ((Below.heap_alloc _ _ _ HLT.out).trans HA1.out)
      have hD2 := (hb2.block w1.heap.size (by simp)).trans (boxed0 t w1)
      have HB2 := hid ((HB1.out.alloc HB1.out.size (.cells (dtL t).toArray 29)).trans (hb2.mono (by have := HB1.out.size; simp; omega)))
      obtain ⟨a0, a1, a2, a3, a4, a5, a6⟩ := cA_load hA2
      obtain ⟨b0, b1, b2, b3, b4, b5, b6⟩ := cA_load hD2
      have fA : ∀ k, w2.frozen? ⟨w.heap.size, k, none⟩ = false := fun k => by simp [World.frozen?, hA2]
      have HA2 := hid hA2
      clear hA2 hD2 hb2
      go_wp2_with fail
      obtain ⟨x1, x2, x3⟩ := putD_is w2 w.heap.size Dt.zero t HA2.out
      have hb := below_kept HB2.out x3 (by simp) HB2.out.size
      refine bodyPost_ret (w := putD w2 w.heap.size t) (results21_run _ rfl rfl x1) rfl ?_
      rw [HV.out]
      exact ⟨rfl, hb⟩
    · have HV : Hid (internalV s = none) := by unfold Hid internalV; rw [ho]; simp [hp]
      have hq : ((str (printV t)).toList == (str s).toList) = false := by rw [str_eq]; simp [hp]
      clear ho hp hdt
      go_enter Tryd.func21, Tryd.ntmps21
      go_wp2_with fail
      refine HC.out.mono ?_
      rintro e w1 ⟨rfl, hb1⟩
      have HE2 : Hid (Env (w1.alloc (.cells (dtL t).toArray 29))) := (HE.out.later (HB.out.trans (hb1.mono (by simp)))).later ((Below.refl _ _).alloc (Nat.le_refl _) _)
      have hA1 := (hb1.block w.heap.size (by simp)).trans HA.out
      have HLT := hid (lt_of_some hA1)
      have HB1 := hid (HB.out.trans (hb1.mono (by simp)))
      have HA1 := hid hA1
      clear hA1 hb1
      go_wp2_with fail
      refine (HPR.out _ HE2.out).mono ?_
      rintro e w2 ⟨rfl, hb2⟩
      have hA2 := (hb2.block w.heap.size (by simp; have := HLT.out; omega)).trans ((Below.heap_alloc _ _ _ HLT.out).trans HA1.out)
      have HB2 := hid ((HB1.out.alloc HB1.out.size (.cells (dtL t).toArray 29)).trans (hb2.mono (by have := HB1.out.size; simp; omega)))
      obtain ⟨a0, a1, a2, a3, a4, a5, a6⟩ := cA_load hA2
      have fA : ∀ k, w2.frozen? ⟨w.heap.size, k, none⟩ = false := fun k => by simp [World.frozen?, hA2]
      have HA2 := hid hA2
      clear hA2 hb2
      go_wp2_with fail
      obtain ⟨x1, x2, x3⟩ := putD_is w2 w.heap.size Dt.zero Dt.zero HA2.out
      have hb := below_kept HB2.out x3 (by simp) HB2.out.size
      refine bodyPost_ret (w := putD w2 w.heap.size Dt.zero) (results21_run _ rfl rfl x1) rfl ?_
      rw [HV.out]
      exact ⟨rfl, hb⟩
end Go.Proofs.YtnjdgbbdjkhpoaaDoor
