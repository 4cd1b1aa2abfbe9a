/- What this text holds: the program's Unix, At, Internal, Mail, Day. -/
import Derived.Test.YtnjdgbbdjkhpoaaDoorV2
namespace Go.Proofs.YtnjdgbbdjkhpoaaDoor
open Go.RowKit
set_option linter.unusedVariables false
set_option linter.unusedSimpArgs false

theorem boxed0 (t : Dt) (w : World) : (w.alloc (.cells (dtL t).toArray 29)).heap[w.heap.size]? = some (.cells (dtL t).toArray 29 (0, 0)) := heap_alloc_new _ _
def unixN (t : Dt) : Int := dayNo t.y t.mo t.d * 86400 + t.h * 3600 + t.mi * 60 + t.s - t.z * 60
def unixV (t : Dt) : Int := if RightP t then unixN t else 0

set_option maxRecDepth 100000 in
set_option maxHeartbeats 2000000 in
theorem unix_any (t : Dt) (w : World) : Calls Tryd.prog 17 #[dtV t] w fun e w' => e = .returned (.int .i64 (unixV t)) ∧ Below w.heap.size w w' := by
  have HA := hid (boxed0 t w)
  have HB : Hid (Below w.heap.size w (w.alloc (.cells (dtL t).toArray 29))) := (Below.refl _ _).alloc (Nat.le_refl _) _
  obtain ⟨k0, k1, k2, k3, k4, k5, k6⟩ := cA_load HA.out
  have C := right_any t (w.alloc (.cells (dtL t).toArray 29))
  by_cases ht : RightP t
  · rw [decide_eq_true ht] at C
    have HC := hid C
    have HV : Hid (unixV t = dayNo t.y t.mo t.d * 86400 + t.h * 3600 + t.mi * 60 + t.s - t.z * 60) := by unfold Hid unixV; rw [if_pos ht]; rfl
    have hdv : daysV t.y t.mo t.d = dayNo t.y t.mo t.d := by rw [daysV, if_pos ht.1]
    have hdr := day_range ht.1
    obtain ⟨hth, g1, g2, g3, g4, g5, g6, g7, g8⟩ := ht
    generalize dayNo t.y t.mo t.d = D at HV hdv hdr
    obtain ⟨r1, r2⟩ := hdr
    clear C hth
    obtain ⟨y, mo, d, h, mi, s, z⟩ := t
    simp only at g1 g2 g3 g4 g5 g6 g7 g8 hdv HV
    unfold dtV
    unfold dtL at k0 k1 k2 k3 k4 k5 k6 ⊢
    simp only at k0 k1 k2 k3 k4 k5 k6
    go_enter Tryd.func17, Tryd.ntmps17
    go_wp2_with fail
    refine HC.out.mono ?_
    rintro e w1 ⟨rfl, hb1⟩
    have hA1 := (hb1.block w.heap.size (by simp)).trans HA.out
    have HB1 := hid (HB.out.trans (hb1.mono (by simp)))
    clear k0 k1 k2 k3 k4 k5 k6 hb1
    obtain ⟨k0, k1, k2, k3, k4, k5, k6⟩ := cA_load hA1
    simp only at k0 k1 k2 k3 k4 k5 k6
    clear hA1
    have CD := days_any y mo d
    rw [hdv] at CD
    have HCD := hid CD
    clear CD hdv
    go_wp2_with fail
    go_quiet ((go_at_call 12; exact Calls.quiet_of_same (HCD.out _)))
    go_wp2_with fail
    go_ret
    rw [HV.out]
    exact ⟨rfl, below_drewN HB1.out _⟩
  · rw [decide_eq_false ht] at C
    have HC := hid C
    have HV : Hid (unixV t = 0) := by unfold Hid unixV; rw [if_neg ht]
    clear C ht
    obtain ⟨y, mo, d, h, mi, s, z⟩ := t
    unfold dtV
    unfold dtL at k0 k1 k2 k3 k4 k5 k6 ⊢
    simp only at k0 k1 k2 k3 k4 k5 k6
    go_enter Tryd.func17, Tryd.ntmps17
    go_wp2_with fail
    refine HC.out.mono ?_
    rintro e w1 ⟨rfl, hb1⟩
    have HB1 := hid (HB.out.trans (hb1.mono (by simp)))
    clear k0 k1 k2 k3 k4 k5 k6 hb1
    go_wp2_with fail
    go_ret
    rw [HV.out]
    exact ⟨rfl, HB1.out⟩

set_option maxRecDepth 100000 in
set_option maxHeartbeats 2000000 in
theorem part_any (n : Int) (h0 : -9223372036854775808 ≤ n) (h1 : n ≤ 9223372036854775807) (w : World) : Calls Tryd.prog 40 #[.int .i64 n, .int .i64 86400] w fun e w' => e = .returned (.tuple #[.int .i64 (n / 86400), .int .i64 (n % 86400)]) ∧ ∃ k, w' = w.drewN k := by
  have hq : n.tdiv 86400 = if n.tmod 86400 < 0 then n / 86400 + 1 else n / 86400 := by
    have a1 := Int.mul_tdiv_add_tmod n 86400
    have a2 := Int.mul_ediv_add_emod n 86400
    have a3 := Int.emod_nonneg n (b := 86400) (by omega)
    have a4 := Int.emod_lt_of_pos n (b := 86400) (by omega)
    have a5 := Int.tmod_lt_of_pos n (b := 86400) (by omega)
    have a6 : -86400 < n.tmod 86400 := by
      rcases Int.lt_or_le n 0 with hn | hn
      · have := Int.tmod_lt_of_pos (-n) (b := 86400) (by omega)
        rw [Int.neg_tmod] at this
        omega
      · have := Int.tmod_nonneg 86400 hn
        omega
    split <;> omega
  have hr : n.tmod 86400 = if n.tmod 86400 < 0 then n % 86400 - 86400 else n % 86400 := by
    have a1 := Int.mul_tdiv_add_tmod n 86400
    have a2 := Int.mul_ediv_add_emod n 86400
    split <;> rename_i hc <;> simp [hc] at hq <;> omega
  have a3 := Int.emod_nonneg n (b := 86400) (by omega)
  have a4 := Int.emod_lt_of_pos n (b := 86400) (by omega)
  by_cases hc : n.tmod 86400 < 0
  · rw [if_pos hc] at hq hr
    have q2 : n / 86400 + 1 - 1 = n / 86400 := by omega
    go_enter Tryd.func40, Tryd.ntmps40
    go_wp2_with fail
    go_quiet (fail)
    go_wp2_with fail
    go_ret2
    exact ⟨rfl, _, rfl⟩
  · rw [if_neg hc] at hq hr
    go_enter Tryd.func40, Tryd.ntmps40
    go_wp2_with fail
    go_quiet (fail)
    go_wp2_with fail
    go_ret2
    exact ⟨rfl, _, rfl⟩
end Go.Proofs.YtnjdgbbdjkhpoaaDoor
