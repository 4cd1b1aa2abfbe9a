/- What this text holds: the document's Mail: no day, no year. -/
import Derived.Test.YtnjdgbbdjkhpoaaDoorM7
namespace Go.Proofs.YtnjdgbbdjkhpoaaDoor
open Go.RowKit
set_option linter.unusedVariables false
set_option linter.unusedSimpArgs false

set_option maxRecDepth 100000 in
set_option maxHeartbeats 8000000 in
theorem mail0_day (s : Bs) (hs : s.length ≤ 100000) (w : World) {k0 k1 k2 k3 k4 : Bs} (hL : (spl s).1 = [k0, k1, k2, k3, k4]) (hx : wdR k0 = false) (h0 : ¬ k0.length ≤ 2) : Calls Tryd.prog 27 #[.string (str s)] w fun e w' => e = .returned (readV (mailT [k0, k1, k2, k3, k4])) ∧ Below w.heap.size w w' := by
  have HA := hid (boxed0 Dt.zero w)
  have HB : Hid (Below w.heap.size w (w.alloc (.cells (dtL Dt.zero).toArray 29))) := (Below.refl _ _).alloc (Nat.le_refl _) _
  obtain ⟨f1, f2, f3⟩ := spl_facts s
  have C := hid (rsplit_any s (w.alloc (.cells (dtL Dt.zero).toArray 29)) hs)
  rw [hL] at C f3
  have b0 : k0.length ≤ 1000000 := by have := f3 k0 (by simp); omega
  have b1 : k1.length ≤ 1000000 := by have := f3 k1 (by simp); omega
  have b2 : k2.length ≤ 1000000 := by have := f3 k2 (by simp); omega
  have b3 : k3.length ≤ 1000000 := by have := f3 k3 (by simp); omega
  have b4 : k4.length ≤ 1000000 := by have := f3 k4 (by simp); omega
  have z0 := str_size k0
  have z2 := str_size k2
  clear f1 f2 f3 hL
  go_enter Tryd.func27, Tryd.ntmps27
  go_wp2_with fail
  refine C.out.mono ?_
  rintro e w1 ⟨⟨v, rfl, ho⟩, hb⟩
  have hA1 := (hb.block w.heap.size (by simp)).trans HA.out
  have HA1 := hid hA1
  have HB1 := hid (HB.out.trans (hb.mono HB.out.size))
  obtain ⟨g, n, c, rfl, hn⟩ := ho.some (by simp)
  obtain rfl : n = 5 := by simpa using hn.symm
  obtain ⟨_, c', hv, hcap, _⟩ := ho.sl
  cases hv
  have hcap' : (5 : Int) ≤ c := by simp at hcap; omega
  have HQ1 : Hid (Q0 w1 g k0 k1 k2 k3 k4) := ⟨(so_set ho rfl 0 (by simp) []).1, (so_set ho rfl 1 (by simp) []).1, (so_set ho rfl 2 (by simp) []).1, (so_set ho rfl 3 (by simp) []).1, (so_set ho rfl 4 (by simp) []).1⟩
  have q0 : w1.cell? ⟨g, 0, none⟩ = some (.string (str k0)) := (so_set ho rfl 0 (by simp) []).1
  have CW := hid (rweek_any k0 b0 w1)
  rw [hx] at CW
  clear hb ho hn hcap C hA1 hx
  go_wp2_with fail
  refine CW.out.mono ?_
  rintro e w2 ⟨rfl, hb⟩
  have hA2 := (hb.block w.heap.size (lt_of_some HA1.out)).trans HA1.out
  have HA2 := hid hA2
  have HB2 := hid (HB1.out.trans (hb.mono HB1.out.size))
  have HQ2 := hid (HQ1.out.later hb)
  obtain ⟨q0', q1, q2, q3, q4⟩ := HQ2.out
  have q0 := q0'
  clear q0' hb CW
  have d0 : (2 : Int) < k0.length := by omega
  have HV : Hid (mailT [k0, k1, k2, k3, k4] = none) := by rw [Hid, mailT5, if_neg]; intro e; exact h0 e.1
  obtain ⟨a0, a1, a2, a3, a4, a5, a6⟩ := cA_load hA2
  have fA : ∀ k, w2.frozen? ⟨w.heap.size, k, none⟩ = false := fun k => by simp [World.frozen?, hA2]
  clear h0 hA2
  go_wp2_with fail
  all_goals
    obtain ⟨x1, x2, x3⟩ := putD_is w2 w.heap.size Dt.zero Dt.zero HA2.out
    refine bodyPost_ret (w := putD w2 w.heap.size Dt.zero) (results27_run (t := Dt.zero) _ rfl rfl x1) rfl ?_
    rw [HV.out]
    exact ⟨rfl, below_kept HB2.out x3 (by simp) HB2.out.size⟩
set_option maxRecDepth 100000 in
set_option maxHeartbeats 8000000 in
theorem mail0_year (s : Bs) (hs : s.length ≤ 100000) (w : World) {k0 k1 k2 k3 k4 : Bs} (hL : (spl s).1 = [k0, k1, k2, k3, k4]) (hx : wdR k0 = false) (h0 : k0.length ≤ 2) (h2 : k2.length ≠ 4) : Calls Tryd.prog 27 #[.string (str s)] w fun e w' => e = .returned (readV (mailT [k0, k1, k2, k3, k4])) ∧ Below w.heap.size w w' := by
  have HA := hid (boxed0 Dt.zero w)
  have HB : Hid (Below w.heap.size w (w.alloc (.cells (dtL Dt.zero).toArray 29))) := (Below.refl _ _).alloc (Nat.le_refl _) _
  obtain ⟨f1, f2, f3⟩ := spl_facts s
  have C := hid (rsplit_any s (w.alloc (.cells (dtL Dt.zero).toArray 29)) hs)
  rw [hL] at C f3
  have b0 : k0.length ≤ 1000000 := by have := f3 k0 (by simp); omega
  have b1 : k1.length ≤ 1000000 := by have := f3 k1 (by simp); omega
  have b2 : k2.length ≤ 1000000 := by have := f3 k2 (by simp); omega
  have b3 : k3.length ≤ 1000000 := by have := f3 k3 (by simp); omega
  have b4 : k4.length ≤ 1000000 := by have := f3 k4 (by simp); omega
  have z0 := str_size k0
  have z2 := str_size k2
  clear f1 f2 f3 hL
  go_enter Tryd.func27, Tryd.ntmps27
  go_wp2_with fail
  refine C.out.mono ?_
  rintro e w1 ⟨⟨v, rfl, ho⟩, hb⟩
  have hA1 := (hb.block w.heap.size (by simp)).trans HA.out
  have HA1 := hid hA1
  have HB1 := hid (HB.out.trans (hb.mono HB.out.size))
  obtain ⟨g, n, c, rfl, hn⟩ := ho.some (by simp)
  obtain rfl : n = 5 := by simpa using hn.symm
  obtain ⟨_, c', hv, hcap, _⟩ := ho.sl
  cases hv
  have hcap' : (5 : Int) ≤ c := by simp at hcap; omega
  have HQ1 : Hid (Q0 w1 g k0 k1 k2 k3 k4) := ⟨(so_set ho rfl 0 (by simp) []).1, (so_set ho rfl 1 (by simp) []).1, (so_set ho rfl 2 (by simp) []).1, (so_set ho rfl 3 (by simp) []).1, (so_set ho rfl 4 (by simp) []).1⟩
  have q0 : w1.cell? ⟨g, 0, none⟩ = some (.string (str k0)) := (so_set ho rfl 0 (by simp) []).1
  have CW := hid (rweek_any k0 b0 w1)
  rw [hx] at CW
  clear hb ho hn hcap C hA1 hx
  go_wp2_with fail
  refine CW.out.mono ?_
  rintro e w2 ⟨rfl, hb⟩
  have hA2 := (hb.block w.heap.size (lt_of_some HA1.out)).trans HA1.out
  have HA2 := hid hA2
  have HB2 := hid (HB1.out.trans (hb.mono HB1.out.size))
  have HQ2 := hid (HQ1.out.later hb)
  obtain ⟨q0', q1, q2, q3, q4⟩ := HQ2.out
  have q0 := q0'
  clear q0' hb CW
  have d0 : ¬ (2 : Int) < k0.length := by omega
  have d2 : ((k2.length : Int) == 4) = false := by rw [beq_eq_false_iff_ne]; omega
  have g2 : ((k2.length : Int) != 4) = true := by simp [bne, d2]
  have HV : Hid (mailT [k0, k1, k2, k3, k4] = none) := by rw [Hid, mailT5, if_neg]; intro e; exact h2 e.2.1
  obtain ⟨a0, a1, a2, a3, a4, a5, a6⟩ := cA_load hA2
  have fA : ∀ k, w2.frozen? ⟨w.heap.size, k, none⟩ = false := fun k => by simp [World.frozen?, hA2]
  clear h0 h2 hA2
  go_wp2_with fail
  all_goals
    obtain ⟨x1, x2, x3⟩ := putD_is w2 w.heap.size Dt.zero Dt.zero HA2.out
    refine bodyPost_ret (w := putD w2 w.heap.size Dt.zero) (results27_run (t := Dt.zero) _ rfl rfl x1) rfl ?_
    rw [HV.out]
    exact ⟨rfl, below_kept HB2.out x3 (by simp) HB2.out.size⟩
set_option maxRecDepth 100000 in
set_option maxHeartbeats 8000000 in
theorem mail1_day (s : Bs) (hs : s.length ≤ 100000) (w : World) {x k0 k1 k2 k3 k4 : Bs} (hL : (spl s).1 = [x, k0, k1, k2, k3, k4]) (hx : wdR x = true) (h0 : ¬ k0.length ≤ 2) : Calls Tryd.prog 27 #[.string (str s)] w fun e w' => e = .returned (readV (mailT [k0, k1, k2, k3, k4])) ∧ Below w.heap.size w w' := by
  have HA := hid (boxed0 Dt.zero w)
  have HB : Hid (Below w.heap.size w (w.alloc (.cells (dtL Dt.zero).toArray 29))) := (Below.refl _ _).alloc (Nat.le_refl _) _
  obtain ⟨f1, f2, f3⟩ := spl_facts s
  have C := hid (rsplit_any s (w.alloc (.cells (dtL Dt.zero).toArray 29)) hs)
  rw [hL] at C f3
  have b0 : k0.length ≤ 1000000 := by have := f3 k0 (by simp); omega
  have b1 : k1.length ≤ 1000000 := by have := f3 k1 (by simp); omega
  have b2 : k2.length ≤ 1000000 := by have := f3 k2 (by simp); omega
  have b3 : k3.length ≤ 1000000 := by have := f3 k3 (by simp); omega
  have b4 : k4.length ≤ 1000000 := by have := f3 k4 (by simp); omega
  have bx : x.length ≤ 1000000 := by have := f3 x (by simp); omega
  have z0 := str_size k0
  have z2 := str_size k2
  clear f1 f2 f3 hL
  go_enter Tryd.func27, Tryd.ntmps27
  go_wp2_with fail
  refine C.out.mono ?_
  rintro e w1 ⟨⟨v, rfl, ho⟩, hb⟩
  have hA1 := (hb.block w.heap.size (by simp)).trans HA.out
  have HA1 := hid hA1
  have HB1 := hid (HB.out.trans (hb.mono HB.out.size))
  obtain ⟨g, n, c, rfl, hn⟩ := ho.some (by simp)
  obtain rfl : n = 6 := by simpa using hn.symm
  obtain ⟨_, c', hv, hcap, _⟩ := ho.sl
  cases hv
  have hcap' : (6 : Int) ≤ c := by simp at hcap; omega
  have HQ1 : Hid (Q1 w1 g k0 k1 k2 k3 k4) := ⟨(so_set ho rfl 1 (by simp) []).1, (so_set ho rfl 2 (by simp) []).1, (so_set ho rfl 3 (by simp) []).1, (so_set ho rfl 4 (by simp) []).1, (so_set ho rfl 5 (by simp) []).1⟩
  have q0 : w1.cell? ⟨g, 0, none⟩ = some (.string (str x)) := (so_set ho rfl 0 (by simp) []).1
  have CW := hid (rweek_any x bx w1)
  rw [hx] at CW
  clear hb ho hn hcap C hA1 hx
  go_wp2_with fail
  refine CW.out.mono ?_
  rintro e w2 ⟨rfl, hb⟩
  have hA2 := (hb.block w.heap.size (lt_of_some HA1.out)).trans HA1.out
  have HA2 := hid hA2
  have HB2 := hid (HB1.out.trans (hb.mono HB1.out.size))
  have HQ2 := hid (HQ1.out.later hb)
  obtain ⟨q0', q1, q2, q3, q4⟩ := HQ2.out
  have q0 := q0'
  clear q0' hb CW
  have d0 : (2 : Int) < k0.length := by omega
  have HV : Hid (mailT [k0, k1, k2, k3, k4] = none) := by rw [Hid, mailT5, if_neg]; intro e; exact h0 e.1
  obtain ⟨a0, a1, a2, a3, a4, a5, a6⟩ := cA_load hA2
  have fA : ∀ k, w2.frozen? ⟨w.heap.size, k, none⟩ = false := fun k => by simp [World.frozen?, hA2]
  clear h0 hA2
  go_wp2_with fail
  all_goals
    obtain ⟨x1, x2, x3⟩ := putD_is w2 w.heap.size Dt.zero Dt.zero HA2.out
    refine bodyPost_ret (w := putD w2 w.heap.size Dt.zero) (results27_run (t := Dt.zero) _ rfl rfl x1) rfl ?_
    rw [HV.out]
    exact ⟨rfl, below_kept HB2.out x3 (by simp) HB2.out.size⟩
set_option maxRecDepth 100000 in
set_option maxHeartbeats 8000000 in
theorem mail1_year (s : Bs) (hs : s.length ≤ 100000) (w : World) {x k0 k1 k2 k3 k4 : Bs} (hL : (spl s).1 = [x, k0, k1, k2, k3, k4]) (hx : wdR x = true) (h0 : k0.length ≤ 2) (h2 : k2.length ≠ 4) : Calls Tryd.prog 27 #[.string (str s)] w fun e w' => e = .returned (readV (mailT [k0, k1, k2, k3, k4])) ∧ Below w.heap.size w w' := by
  have HA := hid (boxed0 Dt.zero w)
  have HB : Hid (Below w.heap.size w (w.alloc (.cells (dtL Dt.zero).toArray 29))) := (Below.refl _ _).alloc (Nat.le_refl _) _
  obtain ⟨f1, f2, f3⟩ := spl_facts s
  have C := hid (rsplit_any s (w.alloc (.cells (dtL Dt.zero).toArray 29)) hs)
  rw [hL] at C f3
  have b0 : k0.length ≤ 1000000 := by have := f3 k0 (by simp); omega
  have b1 : k1.length ≤ 1000000 := by have := f3 k1 (by simp); omega
  have b2 : k2.length ≤ 1000000 := by have := f3 k2 (by simp); omega
  have b3 : k3.length ≤ 1000000 := by have := f3 k3 (by simp); omega
  have b4 : k4.length ≤ 1000000 := by have := f3 k4 (by simp); omega
  have bx : x.length ≤ 1000000 := by have := f3 x (by simp); omega
  have z0 := str_size k0
  have z2 := str_size k2
  clear f1 f2 f3 hL
  go_enter Tryd.func27, Tryd.ntmps27
  go_wp2_with fail
  refine C.out.mono ?_
  rintro e w1 ⟨⟨v, rfl, ho⟩, hb⟩
  have hA1 := (hb.block w.heap.size (by simp)).trans HA.out
  have HA1 := hid hA1
  have HB1 := hid (HB.out.trans (hb.mono HB.out.size))
  obtain ⟨g, n, c, rfl, hn⟩ := ho.some (by simp)
  obtain rfl : n = 6 := by simpa using hn.symm
  obtain ⟨_, c', hv, hcap, _⟩ := ho.sl
  cases hv
  have hcap' : (6 : Int) ≤ c := by simp at hcap; omega
  have HQ1 : Hid (Q1 w1 g k0 k1 k2 k3 k4) := ⟨(so_set ho rfl 1 (by simp) []).1, (so_set ho rfl 2 (by simp) []).1, (so_set ho rfl 3 (by simp) []).1, (so_set ho rfl 4 (by simp) []).1, (so_set ho rfl 5 (by simp) []).1⟩
  have q0 : w1.cell? ⟨g, 0, none⟩ = some (.string (str x)) := (so_set ho rfl 0 (by simp) []).1
  have CW := hid (rweek_any x bx w1)
  rw [hx] at CW
  clear hb ho hn hcap C hA1 hx
  go_wp2_with fail
  refine CW.out.mono ?_
  rintro e w2 ⟨rfl, hb⟩
  have hA2 := (hb.block w.heap.size (lt_of_some HA1.out)).trans HA1.out
  have HA2 := hid hA2
  have HB2 := hid (HB1.out.trans (hb.mono HB1.out.size))
  have HQ2 := hid (HQ1.out.later hb)
  obtain ⟨q0', q1, q2, q3, q4⟩ := HQ2.out
  have q0 := q0'
  clear q0' hb CW
  have d0 : ¬ (2 : Int) < k0.length := by omega
  have d2 : ((k2.length : Int) == 4) = false := by rw [beq_eq_false_iff_ne]; omega
  have g2 : ((k2.length : Int) != 4) = true := by simp [bne, d2]
  have HV : Hid (mailT [k0, k1, k2, k3, k4] = none) := by rw [Hid, mailT5, if_neg]; intro e; exact h2 e.2.1
  obtain ⟨a0, a1, a2, a3, a4, a5, a6⟩ := cA_load hA2
  have fA : ∀ k, w2.frozen? ⟨w.heap.size, k, none⟩ = false := fun k => by simp [World.frozen?, hA2]
  clear h0 h2 hA2
  go_wp2_with fail
  all_goals
    obtain ⟨x1, x2, x3⟩ := putD_is w2 w.heap.size Dt.zero Dt.zero HA2.out
    refine bodyPost_ret (w := putD w2 w.heap.size Dt.zero) (results27_run (t := Dt.zero) _ rfl rfl x1) rfl ?_
    rw [HV.out]
    exact ⟨rfl, below_kept HB2.out x3 (by simp) HB2.out.size⟩
end Go.Proofs.YtnjdgbbdjkhpoaaDoor
