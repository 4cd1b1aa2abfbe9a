/- What this text holds: the document's Mail: five pieces. -/
import Derived.Test.YtnjdgbbdjkhpoaaDoorM10
namespace Go.Proofs.YtnjdgbbdjkhpoaaDoor
open Go.RowKit
set_option linter.unusedVariables false
set_option linter.unusedSimpArgs false

set_option maxRecDepth 100000 in
set_option maxHeartbeats 8000000 in
theorem mail0_gmt (s : Bs) (hs : s.length ≤ 100000) (w : World) {k0 k1 k2 k3 k4 : Bs} (hL : (spl s).1 = [k0, k1, k2, k3, k4]) (hx : wdR k0 = false) (h0 : k0.length ≤ 2) (h2 : k2.length = 4) (hz : low k4 = [103, 109, 116]) : Calls Tryd.prog 27 #[.string (str s)] w fun e w' => e = .returned (readV (mailT [k0, k1, k2, k3, k4])) ∧ Below w.heap.size w w' := by
  have HA := hid (boxed0 Dt.zero w)
  have HB : Hid (Below w.heap.size w (w.alloc (.cells (dtL Dt.zero).toArray 29))) := (Below.refl _ _).alloc (Nat.le_refl _) _
  obtain ⟨f1, f2, f3⟩ := spl_facts s
  have C := hid (rsplit_any s (w.alloc (.cells (dtL Dt.zero).toArray 29)) hs)
  rw [hL] at C f3
  have b0 : k0.length ≤ 1000000 := by have := f3 k0 (by simp); omega
  have b1 : k1.length ≤ 1000000 := by have := f3 k1 (by simp); omega
  have b2 : k2.length ≤ 1000000 := by have := f3 k2 (by simp); omega
  have b3 : k3.length ≤ 1000000 := by have := f3 k3 (by simp); omega
  have b4 : k4.length ≤ 1000000 := by have := f3 k4 (by simp); omega
  have z0 := str_size k0
  have z2 := str_size k2
  clear f1 f2 f3 hL
  go_enter Tryd.func27, Tryd.ntmps27
  go_wp2_with fail
  refine C.out.mono ?_
  rintro e w1 ⟨⟨v, rfl, ho⟩, hb⟩
  have hA1 := (hb.block w.heap.size (by simp)).trans HA.out
  have HA1 := hid hA1
  have HB1 := hid (HB.out.trans (hb.mono HB.out.size))
  obtain ⟨g, n, c, rfl, hn⟩ := ho.some (by simp)
  obtain rfl : n = 5 := by simpa using hn.symm
  obtain ⟨_, c', hv, hcap, _⟩ := ho.sl
  cases hv
  have hcap' : (5 : Int) ≤ c := by simp at hcap; omega
  have HQ1 : Hid (Q0 w1 g k0 k1 k2 k3 k4) := ⟨(so_set ho rfl 0 (by simp) []).1, (so_set ho rfl 1 (by simp) []).1, (so_set ho rfl 2 (by simp) []).1, (so_set ho rfl 3 (by simp) []).1, (so_set ho rfl 4 (by simp) []).1⟩
  have q0 : w1.cell? ⟨g, 0, none⟩ = some (.string (str k0)) := (so_set ho rfl 0 (by simp) []).1
  have CW := hid (rweek_any k0 b0 w1)
  rw [hx] at CW
  clear hb ho hn hcap C hA1 hx
  go_wp2_with fail
  refine CW.out.mono ?_
  rintro e w2 ⟨rfl, hb⟩
  have hA2 := (hb.block w.heap.size (lt_of_some HA1.out)).trans HA1.out
  have HA2 := hid hA2
  have HB2 := hid (HB1.out.trans (hb.mono HB1.out.size))
  have HQ2 := hid (HQ1.out.later hb)
  obtain ⟨q0', q1, q2, q3, q4⟩ := HQ2.out
  have q0 := q0'
  clear q0' hb CW
  have d0 : ¬ (2 : Int) < k0.length := by omega
  rw [h2] at z2
  have d2 : ((4 : Int) == 4) = true := rfl
  have HZ := hid (zok_gmt hz)
  have HS0 := hid h0
  have HS2 := hid h2
  obtain ⟨ch, cm, cs, hck⟩ : ∃ a b c, clkR k3 = (a, b, c) := ⟨_, _, _, rfl⟩
  have CK := rclock_any k3 b3
  rw [hck] at CK
  have CKH := hid CK
  have CZ := rzone_any k4 b4
  generalize (zoneT k4).isSome = okv at CZ
  have HD : Hid (mailD k0 k1 k2 k3 k4 = ⟨numR k2, monthR k1, numR k0, ch, cm, cs, (zoneT k4).getD 0⟩) := by unfold Hid mailD; rw [hck]
  generalize (zoneT k4).getD 0 = zz at CZ HD
  have CZH := hid CZ
  have CL := fun w => rlower_any k4 w (by omega)
  have hb1 : ((str [103, 109, 116]).toList == [103, 109, 116]) = true := by rw [toLm]; decide
  have hp1 : (str [103, 109, 116]).toList = [103, 109, 116] := toLm _
  rw [hz] at CL
  have hq1 : ((str [103, 109, 116]).toList == (⟨#[103, 109, 116]⟩ : ByteArray).toList) = true := by rw [show (⟨#[103, 109, 116]⟩ : ByteArray) = str [103, 109, 116] from rfl]; simp
  have CLH := hid CL
  clear h0 h2 hck CK CZ CL hA2 hz
  go_wp2_with fail
  refine (CKH.out _).mono ?_
  rintro e w3 ⟨rfl, hb⟩
  have hA3 := (hb.block w.heap.size (lt_of_some HA2.out)).trans HA2.out
  have HA3 := hid hA3
  have HB3 := hid (HB2.out.trans (hb.mono HB2.out.size))
  have HQ3 := hid (HQ2.out.later hb)
  obtain ⟨q0', q1', q2', q3', q4'⟩ := HQ3.out
  clear hb hA3 q0 q1 q2 q3 q4
  have q0 := q0'
  have q1 := q1'
  have q2 := q2'
  have q3 := q3'
  have q4 := q4'
  clear q0' q1' q2' q3' q4'
  go_wp2_with fail
  refine (CZH.out _).mono ?_
  rintro e w3' ⟨rfl, rfl⟩
  go_wp2_with fail
  refine (CLH.out _).mono ?_
  rintro e w4 ⟨rfl, hb⟩
  have hA4 := (hb.block w.heap.size (lt_of_some HA3.out)).trans HA3.out
  have HA4 := hid hA4
  have HB4 := hid (HB3.out.trans (hb.mono HB3.out.size))
  have HQ4 := hid (HQ3.out.later hb)
  obtain ⟨q0', q1', q2', q3', q4'⟩ := HQ4.out
  clear hb hA4 q0 q1 q2 q3 q4
  have q0 := q0'
  have q1 := q1'
  have q2 := q2'
  have q3 := q3'
  have q4 := q4'
  clear q0' q1' q2' q3' q4'
  go_wp2_with fail
  refine Code.wp_mono (fun e a' W hh => ?_) (reg10_0 b0 b1 b2 q0 q1 q2)
  obtain ⟨rfl, g', rfl, hg, hbW⟩ := hh
  have hA7 := (hbW.block w.heap.size (lt_of_some HA4.out)).trans HA4.out
  have HG := hid hg
  have HA7 := hid hA7
  have HB7 := hid (HB4.out.trans (hbW.mono HB4.out.size))
  obtain ⟨g0, g1, g2, g3, g4, g5, g6⟩ := cA_load hg
  obtain ⟨a0, a1, a2, a3, a4, a5, a6⟩ := cA_load hA7
  have fA : ∀ k, W.frozen? ⟨w.heap.size, k, none⟩ = false := fun k => by simp [World.frozen?, hA7]
  clear hg hA7 hbW q0 q1 q2 q3 q4
  clear a0 a1 a2 a3 a4 a5 a6 fA
  have CP := rright_any ⟨numR k2, monthR k1, numR k0, ch, cm, cs, zz⟩ W
  rw [show dtV ⟨numR k2, monthR k1, numR k0, ch, cm, cs, zz⟩ = .agg #[.int .i64 (numR k2), .int .i64 (monthR k1), .int .i64 (numR k0), .int .i64 ch, .int .i64 cm, .int .i64 cs, .int .i64 zz] from rfl] at CP
  by_cases hr : RightP ⟨numR k2, monthR k1, numR k0, ch, cm, cs, zz⟩
  · rw [show decide (RightP ⟨numR k2, monthR k1, numR k0, ch, cm, cs, zz⟩) = true by simpa using hr] at CP
    have HV : Hid (mailT [k0, k1, k2, k3, k4] = some ⟨numR k2, monthR k1, numR k0, ch, cm, cs, zz⟩) := by rw [Hid, mailT5, HD.out, if_pos ⟨HS0.out, HS2.out, HZ.out, hr⟩]
    have HCP := hid CP
    clear CP hr
    go_wp2_with fail
    refine HCP.out.mono ?_
    rintro e w8 ⟨rfl, hb8⟩
    have hg8 := (hb8.block g' (lt_of_some HG.out)).trans HG.out
    have hA8 := (hb8.block w.heap.size (lt_of_some HA7.out)).trans HA7.out
    have HB8 := hid (HB7.out.trans (hb8.mono HB7.out.size))
    have HA8 := hid hA8
    clear g0 g1 g2 g3 g4 g5 g6
    obtain ⟨g0, g1, g2, g3, g4, g5, g6⟩ := cA_load hg8
    obtain ⟨a0, a1, a2, a3, a4, a5, a6⟩ := cA_load hA8
    have fA : ∀ k, w8.frozen? ⟨w.heap.size, k, none⟩ = false := fun k => by simp [World.frozen?, hA8]
    clear hg8 hA8 hb8
    go_wp2_with fail
    obtain ⟨p1, p2, p3⟩ := putD_is w8 w.heap.size Dt.zero ⟨numR k2, monthR k1, numR k0, ch, cm, cs, zz⟩ HA8.out
    refine bodyPost_ret (w := putD w8 w.heap.size ⟨numR k2, monthR k1, numR k0, ch, cm, cs, zz⟩) (results27_run (t := ⟨numR k2, monthR k1, numR k0, ch, cm, cs, zz⟩) _ rfl rfl p1) rfl ?_
    rw [HV.out]
    exact ⟨rfl, below_kept HB8.out p3 (by simp) HB8.out.size⟩
  · rw [show decide (RightP ⟨numR k2, monthR k1, numR k0, ch, cm, cs, zz⟩) = false by simpa using hr] at CP
    have HV : Hid (mailT [k0, k1, k2, k3, k4] = none) := by rw [Hid, mailT5, HD.out, if_neg]; intro e; exact hr e.2.2.2
    have HCP := hid CP
    clear CP hr
    go_wp2_with fail
    refine HCP.out.mono ?_
    rintro e w8 ⟨rfl, hb8⟩
    have hA8 := (hb8.block w.heap.size (lt_of_some HA7.out)).trans HA7.out
    have HB8 := hid (HB7.out.trans (hb8.mono HB7.out.size))
    have HA8 := hid hA8
    clear g0 g1 g2 g3 g4 g5 g6
    obtain ⟨a0, a1, a2, a3, a4, a5, a6⟩ := cA_load hA8
    have fA : ∀ k, w8.frozen? ⟨w.heap.size, k, none⟩ = false := fun k => by simp [World.frozen?, hA8]
    clear hA8 hb8
    go_wp2_with fail
    obtain ⟨x1, x2, x3⟩ := putD_is w8 w.heap.size Dt.zero Dt.zero HA8.out
    refine bodyPost_ret (w := putD w8 w.heap.size Dt.zero) (results27_run (t := Dt.zero) _ rfl rfl x1) rfl ?_
    rw [HV.out]
    exact ⟨rfl, below_kept HB8.out x3 (by simp) HB8.out.size⟩
set_option maxRecDepth 100000 in
set_option maxHeartbeats 8000000 in
theorem mail0_ut (s : Bs) (hs : s.length ≤ 100000) (w : World) {k0 k1 k2 k3 k4 : Bs} (hL : (spl s).1 = [k0, k1, k2, k3, k4]) (hx : wdR k0 = false) (h0 : k0.length ≤ 2) (h2 : k2.length = 4) (hz : low k4 = [117, 116]) : Calls Tryd.prog 27 #[.string (str s)] w fun e w' => e = .returned (readV (mailT [k0, k1, k2, k3, k4])) ∧ Below w.heap.size w w' := by
  have HA := hid (boxed0 Dt.zero w)
  have HB : Hid (Below w.heap.size w (w.alloc (.cells (dtL Dt.zero).toArray 29))) := (Below.refl _ _).alloc (Nat.le_refl _) _
  obtain ⟨f1, f2, f3⟩ := spl_facts s
  have C := hid (rsplit_any s (w.alloc (.cells (dtL Dt.zero).toArray 29)) hs)
  rw [hL] at C f3
  have b0 : k0.length ≤ 1000000 := by have := f3 k0 (by simp); omega
  have b1 : k1.length ≤ 1000000 := by have := f3 k1 (by simp); omega
  have b2 : k2.length ≤ 1000000 := by have := f3 k2 (by simp); omega
  have b3 : k3.length ≤ 1000000 := by have := f3 k3 (by simp); omega
  have b4 : k4.length ≤ 1000000 := by have := f3 k4 (by simp); omega
  have z0 := str_size k0
  have z2 := str_size k2
  clear f1 f2 f3 hL
  go_enter Tryd.func27, Tryd.ntmps27
  go_wp2_with fail
  refine C.out.mono ?_
  rintro e w1 ⟨⟨v, rfl, ho⟩, hb⟩
  have hA1 := (hb.block w.heap.size (by simp)).trans HA.out
  have HA1 := hid hA1
  have HB1 := hid (HB.out.trans (hb.mono HB.out.size))
  obtain ⟨g, n, c, rfl, hn⟩ := ho.some (by simp)
  obtain rfl : n = 5 := by simpa using hn.symm
  obtain ⟨_, c', hv, hcap, _⟩ := ho.sl
  cases hv
  have hcap' : (5 : Int) ≤ c := by simp at hcap; omega
  have HQ1 : Hid (Q0 w1 g k0 k1 k2 k3 k4) := ⟨(so_set ho rfl 0 (by simp) []).1, (so_set ho rfl 1 (by simp) []).1, (so_set ho rfl 2 (by simp) []).1, (so_set ho rfl 3 (by simp) []).1, (so_set ho rfl 4 (by simp) []).1⟩
  have q0 : w1.cell? ⟨g, 0, none⟩ = some (.string (str k0)) := (so_set ho rfl 0 (by simp) []).1
  have CW := hid (rweek_any k0 b0 w1)
  rw [hx] at CW
  clear hb ho hn hcap C hA1 hx
  go_wp2_with fail
  refine CW.out.mono ?_
  rintro e w2 ⟨rfl, hb⟩
  have hA2 := (hb.block w.heap.size (lt_of_some HA1.out)).trans HA1.out
  have HA2 := hid hA2
  have HB2 := hid (HB1.out.trans (hb.mono HB1.out.size))
  have HQ2 := hid (HQ1.out.later hb)
  obtain ⟨q0', q1, q2, q3, q4⟩ := HQ2.out
  have q0 := q0'
  clear q0' hb CW
  have d0 : ¬ (2 : Int) < k0.length := by omega
  rw [h2] at z2
  have d2 : ((4 : Int) == 4) = true := rfl
  have HZ := hid (zok_ut hz)
  have HS0 := hid h0
  have HS2 := hid h2
  obtain ⟨ch, cm, cs, hck⟩ : ∃ a b c, clkR k3 = (a, b, c) := ⟨_, _, _, rfl⟩
  have CK := rclock_any k3 b3
  rw [hck] at CK
  have CKH := hid CK
  have CZ := rzone_any k4 b4
  generalize (zoneT k4).isSome = okv at CZ
  have HD : Hid (mailD k0 k1 k2 k3 k4 = ⟨numR k2, monthR k1, numR k0, ch, cm, cs, (zoneT k4).getD 0⟩) := by unfold Hid mailD; rw [hck]
  generalize (zoneT k4).getD 0 = zz at CZ HD
  have CZH := hid CZ
  have CL := fun w => rlower_any k4 w (by omega)
  have hb1 : ((str [117, 116]).toList == [103, 109, 116]) = false := by rw [toLm]; decide
  have hb2 : ((str [117, 116]).toList == [117, 116]) = true := by rw [toLm]; decide
  have hp1 : ¬ (str [117, 116]).toList = [103, 109, 116] := by rw [toLm]; decide
  have hp2 : (str [117, 116]).toList = [117, 116] := toLm _
  rw [hz] at CL
  have hq1 : ((str [117, 116]).toList == (⟨#[103, 109, 116]⟩ : ByteArray).toList) = false := by rw [show (⟨#[103, 109, 116]⟩ : ByteArray) = str [103, 109, 116] from rfl, str_eq]; rfl
  have hq2 : ((str [117, 116]).toList == (⟨#[117, 116]⟩ : ByteArray).toList) = true := by rw [show (⟨#[117, 116]⟩ : ByteArray) = str [117, 116] from rfl]; simp
  have CLH := hid CL
  clear h0 h2 hck CK CZ CL hA2 hz
  go_wp2_with fail
  refine (CKH.out _).mono ?_
  rintro e w3 ⟨rfl, hb⟩
  have hA3 := (hb.block w.heap.size (lt_of_some HA2.out)).trans HA2.out
  have HA3 := hid hA3
  have HB3 := hid (HB2.out.trans (hb.mono HB2.out.size))
  have HQ3 := hid (HQ2.out.later hb)
  obtain ⟨q0', q1', q2', q3', q4'⟩ := HQ3.out
  clear hb hA3 q0 q1 q2 q3 q4
  have q0 := q0'
  have q1 := q1'
  have q2 := q2'
  have q3 := q3'
  have q4 := q4'
  clear q0' q1' q2' q3' q4'
  go_wp2_with fail
  refine (CZH.out _).mono ?_
  rintro e w3' ⟨rfl, rfl⟩
  go_wp2_with fail
  refine (CLH.out _).mono ?_
  rintro e w4 ⟨rfl, hb⟩
  have hA4 := (hb.block w.heap.size (lt_of_some HA3.out)).trans HA3.out
  have HA4 := hid hA4
  have HB4 := hid (HB3.out.trans (hb.mono HB3.out.size))
  have HQ4 := hid (HQ3.out.later hb)
  obtain ⟨q0', q1', q2', q3', q4'⟩ := HQ4.out
  clear hb hA4 q0 q1 q2 q3 q4
  have q0 := q0'
  have q1 := q1'
  have q2 := q2'
  have q3 := q3'
  have q4 := q4'
  clear q0' q1' q2' q3' q4'
  go_wp2_with fail
  refine (CLH.out _).mono ?_
  rintro e w5 ⟨rfl, hb⟩
  have hA5 := (hb.block w.heap.size (lt_of_some HA4.out)).trans HA4.out
  have HA5 := hid hA5
  have HB5 := hid (HB4.out.trans (hb.mono HB4.out.size))
  have HQ5 := hid (HQ4.out.later hb)
  obtain ⟨q0', q1', q2', q3', q4'⟩ := HQ5.out
  clear hb hA5 q0 q1 q2 q3 q4
  have q0 := q0'
  have q1 := q1'
  have q2 := q2'
  have q3 := q3'
  have q4 := q4'
  clear q0' q1' q2' q3' q4'
  go_wp2_with fail
  refine Code.wp_mono (fun e a' W hh => ?_) (reg10_0 b0 b1 b2 q0 q1 q2)
  obtain ⟨rfl, g', rfl, hg, hbW⟩ := hh
  have hA7 := (hbW.block w.heap.size (lt_of_some HA5.out)).trans HA5.out
  have HG := hid hg
  have HA7 := hid hA7
  have HB7 := hid (HB5.out.trans (hbW.mono HB5.out.size))
  obtain ⟨g0, g1, g2, g3, g4, g5, g6⟩ := cA_load hg
  obtain ⟨a0, a1, a2, a3, a4, a5, a6⟩ := cA_load hA7
  have fA : ∀ k, W.frozen? ⟨w.heap.size, k, none⟩ = false := fun k => by simp [World.frozen?, hA7]
  clear hg hA7 hbW q0 q1 q2 q3 q4
  clear a0 a1 a2 a3 a4 a5 a6 fA
  have CP := rright_any ⟨numR k2, monthR k1, numR k0, ch, cm, cs, zz⟩ W
  rw [show dtV ⟨numR k2, monthR k1, numR k0, ch, cm, cs, zz⟩ = .agg #[.int .i64 (numR k2), .int .i64 (monthR k1), .int .i64 (numR k0), .int .i64 ch, .int .i64 cm, .int .i64 cs, .int .i64 zz] from rfl] at CP
  by_cases hr : RightP ⟨numR k2, monthR k1, numR k0, ch, cm, cs, zz⟩
  · rw [show decide (RightP ⟨numR k2, monthR k1, numR k0, ch, cm, cs, zz⟩) = true by simpa using hr] at CP
    have HV : Hid (mailT [k0, k1, k2, k3, k4] = some ⟨numR k2, monthR k1, numR k0, ch, cm, cs, zz⟩) := by rw [Hid, mailT5, HD.out, if_pos ⟨HS0.out, HS2.out, HZ.out, hr⟩]
    have HCP := hid CP
    clear CP hr
    go_wp2_with fail
    refine HCP.out.mono ?_
    rintro e w8 ⟨rfl, hb8⟩
    have hg8 := (hb8.block g' (lt_of_some HG.out)).trans HG.out
    have hA8 := (hb8.block w.heap.size (lt_of_some HA7.out)).trans HA7.out
    have HB8 := hid (HB7.out.trans (hb8.mono HB7.out.size))
    have HA8 := hid hA8
    clear g0 g1 g2 g3 g4 g5 g6
    obtain ⟨g0, g1, g2, g3, g4, g5, g6⟩ := cA_load hg8
    obtain ⟨a0, a1, a2, a3, a4, a5, a6⟩ := cA_load hA8
    have fA : ∀ k, w8.frozen? ⟨w.heap.size, k, none⟩ = false := fun k => by simp [World.frozen?, hA8]
    clear hg8 hA8 hb8
    go_wp2_with fail
    obtain ⟨p1, p2, p3⟩ := putD_is w8 w.heap.size Dt.zero ⟨numR k2, monthR k1, numR k0, ch, cm, cs, zz⟩ HA8.out
    refine bodyPost_ret (w := putD w8 w.heap.size ⟨numR k2, monthR k1, numR k0, ch, cm, cs, zz⟩) (results27_run (t := ⟨numR k2, monthR k1, numR k0, ch, cm, cs, zz⟩) _ rfl rfl p1) rfl ?_
    rw [HV.out]
    exact ⟨rfl, below_kept HB8.out p3 (by simp) HB8.out.size⟩
  · rw [show decide (RightP ⟨numR k2, monthR k1, numR k0, ch, cm, cs, zz⟩) = false by simpa using hr] at CP
    have HV : Hid (mailT [k0, k1, k2, k3, k4] = none) := by rw [Hid, mailT5, HD.out, if_neg]; intro e; exact hr e.2.2.2
    have HCP := hid CP
    clear CP hr
    go_wp2_with fail
    refine HCP.out.mono ?_
    rintro e w8 ⟨rfl, hb8⟩
    have hA8 := (hb8.block w.heap.size (lt_of_some HA7.out)).trans HA7.out
    have HB8 := hid (HB7.out.trans (hb8.mono HB7.out.size))
    have HA8 := hid hA8
    clear g0 g1 g2 g3 g4 g5 g6
    obtain ⟨a0, a1, a2, a3, a4, a5, a6⟩ := cA_load hA8
    have fA : ∀ k, w8.frozen? ⟨w.heap.size, k, none⟩ = false := fun k => by simp [World.frozen?, hA8]
    clear hA8 hb8
    go_wp2_with fail
    obtain ⟨x1, x2, x3⟩ := putD_is w8 w.heap.size Dt.zero Dt.zero HA8.out
    refine bodyPost_ret (w := putD w8 w.heap.size Dt.zero) (results27_run (t := Dt.zero) _ rfl rfl x1) rfl ?_
    rw [HV.out]
    exact ⟨rfl, below_kept HB8.out x3 (by simp) HB8.out.size⟩
set_option maxRecDepth 100000 in
set_option maxHeartbeats 8000000 in
theorem mail0_num (s : Bs) (hs : s.length ≤ 100000) (w : World) {k0 k1 k2 k3 k4 : Bs} (hL : (spl s).1 = [k0, k1, k2, k3, k4]) (hx : wdR k0 = false) (h0 : k0.length ≤ 2) (h2 : k2.length = 4) (hz1 : low k4 ≠ [103, 109, 116]) (hz2 : low k4 ≠ [117, 116]) (hz : (zoneT k4).isSome = true) : Calls Tryd.prog 27 #[.string (str s)] w fun e w' => e = .returned (readV (mailT [k0, k1, k2, k3, k4])) ∧ Below w.heap.size w w' := by
  have HA := hid (boxed0 Dt.zero w)
  have HB : Hid (Below w.heap.size w (w.alloc (.cells (dtL Dt.zero).toArray 29))) := (Below.refl _ _).alloc (Nat.le_refl _) _
  obtain ⟨f1, f2, f3⟩ := spl_facts s
  have C := hid (rsplit_any s (w.alloc (.cells (dtL Dt.zero).toArray 29)) hs)
  rw [hL] at C f3
  have b0 : k0.length ≤ 1000000 := by have := f3 k0 (by simp); omega
  have b1 : k1.length ≤ 1000000 := by have := f3 k1 (by simp); omega
  have b2 : k2.length ≤ 1000000 := by have := f3 k2 (by simp); omega
  have b3 : k3.length ≤ 1000000 := by have := f3 k3 (by simp); omega
  have b4 : k4.length ≤ 1000000 := by have := f3 k4 (by simp); omega
  have z0 := str_size k0
  have z2 := str_size k2
  clear f1 f2 f3 hL
  go_enter Tryd.func27, Tryd.ntmps27
  go_wp2_with fail
  refine C.out.mono ?_
  rintro e w1 ⟨⟨v, rfl, ho⟩, hb⟩
  have hA1 := (hb.block w.heap.size (by simp)).trans HA.out
  have HA1 := hid hA1
  have HB1 := hid (HB.out.trans (hb.mono HB.out.size))
  obtain ⟨g, n, c, rfl, hn⟩ := ho.some (by simp)
  obtain rfl : n = 5 := by simpa using hn.symm
  obtain ⟨_, c', hv, hcap, _⟩ := ho.sl
  cases hv
  have hcap' : (5 : Int) ≤ c := by simp at hcap; omega
  have HQ1 : Hid (Q0 w1 g k0 k1 k2 k3 k4) := ⟨(so_set ho rfl 0 (by simp) []).1, (so_set ho rfl 1 (by simp) []).1, (so_set ho rfl 2 (by simp) []).1, (so_set ho rfl 3 (by simp) []).1, (so_set ho rfl 4 (by simp) []).1⟩
  have q0 : w1.cell? ⟨g, 0, none⟩ = some (.string (str k0)) := (so_set ho rfl 0 (by simp) []).1
  have CW := hid (rweek_any k0 b0 w1)
  rw [hx] at CW
  clear hb ho hn hcap C hA1 hx
  go_wp2_with fail
  refine CW.out.mono ?_
  rintro e w2 ⟨rfl, hb⟩
  have hA2 := (hb.block w.heap.size (lt_of_some HA1.out)).trans HA1.out
  have HA2 := hid hA2
  have HB2 := hid (HB1.out.trans (hb.mono HB1.out.size))
  have HQ2 := hid (HQ1.out.later hb)
  obtain ⟨q0', q1, q2, q3, q4⟩ := HQ2.out
  have q0 := q0'
  clear q0' hb CW
  have d0 : ¬ (2 : Int) < k0.length := by omega
  rw [h2] at z2
  have d2 : ((4 : Int) == 4) = true := rfl
  have HZ := hid (zok_num hz)
  have HS0 := hid h0
  have HS2 := hid h2
  obtain ⟨ch, cm, cs, hck⟩ : ∃ a b c, clkR k3 = (a, b, c) := ⟨_, _, _, rfl⟩
  have CK := rclock_any k3 b3
  rw [hck] at CK
  have CKH := hid CK
  have CZ := rzone_any k4 b4
  rw [hz] at CZ
  have HD : Hid (mailD k0 k1 k2 k3 k4 = ⟨numR k2, monthR k1, numR k0, ch, cm, cs, (zoneT k4).getD 0⟩) := by unfold Hid mailD; rw [hck]
  generalize (zoneT k4).getD 0 = zz at CZ HD
  have CZH := hid CZ
  have CL := fun w => rlower_any k4 w (by omega)
  have hq1 : ((str (low k4)).toList == (⟨#[103, 109, 116]⟩ : ByteArray).toList) = false := by rw [show (⟨#[103, 109, 116]⟩ : ByteArray) = str [103, 109, 116] from rfl, str_eq]; exact decide_eq_false hz1
  have hq2 : ((str (low k4)).toList == (⟨#[117, 116]⟩ : ByteArray).toList) = false := by rw [show (⟨#[117, 116]⟩ : ByteArray) = str [117, 116] from rfl, str_eq]; exact decide_eq_false hz2
  have hp1 : ¬ (str (low k4)).toList = [103, 109, 116] := by rw [toLm]; exact hz1
  have hp2 : ¬ (str (low k4)).toList = [117, 116] := by rw [toLm]; exact hz2
  have hb1 : ((str (low k4)).toList == [103, 109, 116]) = false := by rw [toLm]; simpa using hz1
  have hb2 : ((str (low k4)).toList == [117, 116]) = false := by rw [toLm]; simpa using hz2
  generalize low k4 = lk at CL hq1 hq2 hp1 hp2 hb1 hb2
  have CLH := hid CL
  clear h0 h2 hck CK CZ CL hA2 hz hz1 hz2
  go_wp2_with fail
  refine (CKH.out _).mono ?_
  rintro e w3 ⟨rfl, hb⟩
  have hA3 := (hb.block w.heap.size (lt_of_some HA2.out)).trans HA2.out
  have HA3 := hid hA3
  have HB3 := hid (HB2.out.trans (hb.mono HB2.out.size))
  have HQ3 := hid (HQ2.out.later hb)
  obtain ⟨q0', q1', q2', q3', q4'⟩ := HQ3.out
  clear hb hA3 q0 q1 q2 q3 q4
  have q0 := q0'
  have q1 := q1'
  have q2 := q2'
  have q3 := q3'
  have q4 := q4'
  clear q0' q1' q2' q3' q4'
  go_wp2_with fail
  refine (CZH.out _).mono ?_
  rintro e w3' ⟨rfl, rfl⟩
  go_wp2_with fail
  refine (CLH.out _).mono ?_
  rintro e w4 ⟨rfl, hb⟩
  have hA4 := (hb.block w.heap.size (lt_of_some HA3.out)).trans HA3.out
  have HA4 := hid hA4
  have HB4 := hid (HB3.out.trans (hb.mono HB3.out.size))
  have HQ4 := hid (HQ3.out.later hb)
  obtain ⟨q0', q1', q2', q3', q4'⟩ := HQ4.out
  clear hb hA4 q0 q1 q2 q3 q4
  have q0 := q0'
  have q1 := q1'
  have q2 := q2'
  have q3 := q3'
  have q4 := q4'
  clear q0' q1' q2' q3' q4'
  go_wp2_with fail
  refine (CLH.out _).mono ?_
  rintro e w5 ⟨rfl, hb⟩
  have hA5 := (hb.block w.heap.size (lt_of_some HA4.out)).trans HA4.out
  have HA5 := hid hA5
  have HB5 := hid (HB4.out.trans (hb.mono HB4.out.size))
  have HQ5 := hid (HQ4.out.later hb)
  obtain ⟨q0', q1', q2', q3', q4'⟩ := HQ5.out
  clear hb hA5 q0 q1 q2 q3 q4
  have q0 := q0'
  have q1 := q1'
  have q2 := q2'
  have q3 := q3'
  have q4 := q4'
  clear q0' q1' q2' q3' q4'
  go_wp2_with fail
  refine Code.wp_mono (fun e a' W hh => ?_) (reg10_0 b0 b1 b2 q0 q1 q2)
  obtain ⟨rfl, g', rfl, hg, hbW⟩ := hh
  have hA7 := (hbW.block w.heap.size (lt_of_some HA5.out)).trans HA5.out
  have HG := hid hg
  have HA7 := hid hA7
  have HB7 := hid (HB5.out.trans (hbW.mono HB5.out.size))
  obtain ⟨g0, g1, g2, g3, g4, g5, g6⟩ := cA_load hg
  obtain ⟨a0, a1, a2, a3, a4, a5, a6⟩ := cA_load hA7
  have fA : ∀ k, W.frozen? ⟨w.heap.size, k, none⟩ = false := fun k => by simp [World.frozen?, hA7]
  clear hg hA7 hbW q0 q1 q2 q3 q4
  clear a0 a1 a2 a3 a4 a5 a6 fA
  have CP := rright_any ⟨numR k2, monthR k1, numR k0, ch, cm, cs, zz⟩ W
  rw [show dtV ⟨numR k2, monthR k1, numR k0, ch, cm, cs, zz⟩ = .agg #[.int .i64 (numR k2), .int .i64 (monthR k1), .int .i64 (numR k0), .int .i64 ch, .int .i64 cm, .int .i64 cs, .int .i64 zz] from rfl] at CP
  by_cases hr : RightP ⟨numR k2, monthR k1, numR k0, ch, cm, cs, zz⟩
  · rw [show decide (RightP ⟨numR k2, monthR k1, numR k0, ch, cm, cs, zz⟩) = true by simpa using hr] at CP
    have HV : Hid (mailT [k0, k1, k2, k3, k4] = some ⟨numR k2, monthR k1, numR k0, ch, cm, cs, zz⟩) := by rw [Hid, mailT5, HD.out, if_pos ⟨HS0.out, HS2.out, HZ.out, hr⟩]
    have HCP := hid CP
    clear CP hr
    go_wp2_with fail
    refine HCP.out.mono ?_
    rintro e w8 ⟨rfl, hb8⟩
    have hg8 := (hb8.block g' (lt_of_some HG.out)).trans HG.out
    have hA8 := (hb8.block w.heap.size (lt_of_some HA7.out)).trans HA7.out
    have HB8 := hid (HB7.out.trans (hb8.mono HB7.out.size))
    have HA8 := hid hA8
    clear g0 g1 g2 g3 g4 g5 g6
    obtain ⟨g0, g1, g2, g3, g4, g5, g6⟩ := cA_load hg8
    obtain ⟨a0, a1, a2, a3, a4, a5, a6⟩ := cA_load hA8
    have fA : ∀ k, w8.frozen? ⟨w.heap.size, k, none⟩ = false := fun k => by simp [World.frozen?, hA8]
    clear hg8 hA8 hb8
    go_wp2_with fail
    obtain ⟨p1, p2, p3⟩ := putD_is w8 w.heap.size Dt.zero ⟨numR k2, monthR k1, numR k0, ch, cm, cs, zz⟩ HA8.out
    refine bodyPost_ret (w := putD w8 w.heap.size ⟨numR k2, monthR k1, numR k0, ch, cm, cs, zz⟩) (results27_run (t := ⟨numR k2, monthR k1, numR k0, ch, cm, cs, zz⟩) _ rfl rfl p1) rfl ?_
    rw [HV.out]
    exact ⟨rfl, below_kept HB8.out p3 (by simp) HB8.out.size⟩
  · rw [show decide (RightP ⟨numR k2, monthR k1, numR k0, ch, cm, cs, zz⟩) = false by simpa using hr] at CP
    have HV : Hid (mailT [k0, k1, k2, k3, k4] = none) := by rw [Hid, mailT5, HD.out, if_neg]; intro e; exact hr e.2.2.2
    have HCP := hid CP
    clear CP hr
    go_wp2_with fail
    refine HCP.out.mono ?_
    rintro e w8 ⟨rfl, hb8⟩
    have hA8 := (hb8.block w.heap.size (lt_of_some HA7.out)).trans HA7.out
    have HB8 := hid (HB7.out.trans (hb8.mono HB7.out.size))
    have HA8 := hid hA8
    clear g0 g1 g2 g3 g4 g5 g6
    obtain ⟨a0, a1, a2, a3, a4, a5, a6⟩ := cA_load hA8
    have fA : ∀ k, w8.frozen? ⟨w.heap.size, k, none⟩ = false := fun k => by simp [World.frozen?, hA8]
    clear hA8 hb8
    go_wp2_with fail
    obtain ⟨x1, x2, x3⟩ := putD_is w8 w.heap.size Dt.zero Dt.zero HA8.out
    refine bodyPost_ret (w := putD w8 w.heap.size Dt.zero) (results27_run (t := Dt.zero) _ rfl rfl x1) rfl ?_
    rw [HV.out]
    exact ⟨rfl, below_kept HB8.out x3 (by simp) HB8.out.size⟩
set_option maxRecDepth 100000 in
set_option maxHeartbeats 8000000 in
theorem mail0_bad (s : Bs) (hs : s.length ≤ 100000) (w : World) {k0 k1 k2 k3 k4 : Bs} (hL : (spl s).1 = [k0, k1, k2, k3, k4]) (hx : wdR k0 = false) (h0 : k0.length ≤ 2) (h2 : k2.length = 4) (hz1 : low k4 ≠ [103, 109, 116]) (hz2 : low k4 ≠ [117, 116]) (hz : (zoneT k4).isSome = false) : Calls Tryd.prog 27 #[.string (str s)] w fun e w' => e = .returned (readV (mailT [k0, k1, k2, k3, k4])) ∧ Below w.heap.size w w' := by
  have HA := hid (boxed0 Dt.zero w)
  have HB : Hid (Below w.heap.size w (w.alloc (.cells (dtL Dt.zero).toArray 29))) := (Below.refl _ _).alloc (Nat.le_refl _) _
  obtain ⟨f1, f2, f3⟩ := spl_facts s
  have C := hid (rsplit_any s (w.alloc (.cells (dtL Dt.zero).toArray 29)) hs)
  rw [hL] at C f3
  have b0 : k0.length ≤ 1000000 := by have := f3 k0 (by simp); omega
  have b1 : k1.length ≤ 1000000 := by have := f3 k1 (by simp); omega
  have b2 : k2.length ≤ 1000000 := by have := f3 k2 (by simp); omega
  have b3 : k3.length ≤ 1000000 := by have := f3 k3 (by simp); omega
  have b4 : k4.length ≤ 1000000 := by have := f3 k4 (by simp); omega
  have z0 := str_size k0
  have z2 := str_size k2
  clear f1 f2 f3 hL
  go_enter Tryd.func27, Tryd.ntmps27
  go_wp2_with fail
  refine C.out.mono ?_
  rintro e w1 ⟨⟨v, rfl, ho⟩, hb⟩
  have hA1 := (hb.block w.heap.size (by simp)).trans HA.out
  have HA1 := hid hA1
  have HB1 := hid (HB.out.trans (hb.mono HB.out.size))
  obtain ⟨g, n, c, rfl, hn⟩ := ho.some (by simp)
  obtain rfl : n = 5 := by simpa using hn.symm
  obtain ⟨_, c', hv, hcap, _⟩ := ho.sl
  cases hv
  have hcap' : (5 : Int) ≤ c := by simp at hcap; omega
  have HQ1 : Hid (Q0 w1 g k0 k1 k2 k3 k4) := ⟨(so_set ho rfl 0 (by simp) []).1, (so_set ho rfl 1 (by simp) []).1, (so_set ho rfl 2 (by simp) []).1, (so_set ho rfl 3 (by simp) []).1, (so_set ho rfl 4 (by simp) []).1⟩
  have q0 : w1.cell? ⟨g, 0, none⟩ = some (.string (str k0)) := (so_set ho rfl 0 (by simp) []).1
  have CW := hid (rweek_any k0 b0 w1)
  rw [hx] at CW
  clear hb ho hn hcap C hA1 hx
  go_wp2_with fail
  refine CW.out.mono ?_
  rintro e w2 ⟨rfl, hb⟩
  have hA2 := (hb.block w.heap.size (lt_of_some HA1.out)).trans HA1.out
  have HA2 := hid hA2
  have HB2 := hid (HB1.out.trans (hb.mono HB1.out.size))
  have HQ2 := hid (HQ1.out.later hb)
  obtain ⟨q0', q1, q2, q3, q4⟩ := HQ2.out
  have q0 := q0'
  clear q0' hb CW
  have d0 : ¬ (2 : Int) < k0.length := by omega
  rw [h2] at z2
  have d2 : ((4 : Int) == 4) = true := rfl
  have HZ := hid (zok_bad hz1 hz2 hz)
  have HS0 := hid h0
  have HS2 := hid h2
  obtain ⟨ch, cm, cs, hck⟩ : ∃ a b c, clkR k3 = (a, b, c) := ⟨_, _, _, rfl⟩
  have CK := rclock_any k3 b3
  rw [hck] at CK
  have CKH := hid CK
  have CZ := rzone_any k4 b4
  rw [hz] at CZ
  have HD : Hid (mailD k0 k1 k2 k3 k4 = ⟨numR k2, monthR k1, numR k0, ch, cm, cs, (zoneT k4).getD 0⟩) := by unfold Hid mailD; rw [hck]
  generalize (zoneT k4).getD 0 = zz at CZ HD
  have CZH := hid CZ
  have CL := fun w => rlower_any k4 w (by omega)
  have hq1 : ((str (low k4)).toList == (⟨#[103, 109, 116]⟩ : ByteArray).toList) = false := by rw [show (⟨#[103, 109, 116]⟩ : ByteArray) = str [103, 109, 116] from rfl, str_eq]; exact decide_eq_false hz1
  have hq2 : ((str (low k4)).toList == (⟨#[117, 116]⟩ : ByteArray).toList) = false := by rw [show (⟨#[117, 116]⟩ : ByteArray) = str [117, 116] from rfl, str_eq]; exact decide_eq_false hz2
  have hp1 : ¬ (str (low k4)).toList = [103, 109, 116] := by rw [toLm]; exact hz1
  have hp2 : ¬ (str (low k4)).toList = [117, 116] := by rw [toLm]; exact hz2
  have hb1 : ((str (low k4)).toList == [103, 109, 116]) = false := by rw [toLm]; simpa using hz1
  have hb2 : ((str (low k4)).toList == [117, 116]) = false := by rw [toLm]; simpa using hz2
  generalize low k4 = lk at CL hq1 hq2 hp1 hp2 hb1 hb2
  have CLH := hid CL
  clear h0 h2 hck CK CZ CL hA2 hz hz1 hz2
  go_wp2_with fail
  refine (CKH.out _).mono ?_
  rintro e w3 ⟨rfl, hb⟩
  have hA3 := (hb.block w.heap.size (lt_of_some HA2.out)).trans HA2.out
  have HA3 := hid hA3
  have HB3 := hid (HB2.out.trans (hb.mono HB2.out.size))
  have HQ3 := hid (HQ2.out.later hb)
  obtain ⟨q0', q1', q2', q3', q4'⟩ := HQ3.out
  clear hb hA3 q0 q1 q2 q3 q4
  have q0 := q0'
  have q1 := q1'
  have q2 := q2'
  have q3 := q3'
  have q4 := q4'
  clear q0' q1' q2' q3' q4'
  go_wp2_with fail
  refine (CZH.out _).mono ?_
  rintro e w3' ⟨rfl, rfl⟩
  go_wp2_with fail
  refine (CLH.out _).mono ?_
  rintro e w4 ⟨rfl, hb⟩
  have hA4 := (hb.block w.heap.size (lt_of_some HA3.out)).trans HA3.out
  have HA4 := hid hA4
  have HB4 := hid (HB3.out.trans (hb.mono HB3.out.size))
  have HQ4 := hid (HQ3.out.later hb)
  obtain ⟨q0', q1', q2', q3', q4'⟩ := HQ4.out
  clear hb hA4 q0 q1 q2 q3 q4
  have q0 := q0'
  have q1 := q1'
  have q2 := q2'
  have q3 := q3'
  have q4 := q4'
  clear q0' q1' q2' q3' q4'
  go_wp2_with fail
  refine (CLH.out _).mono ?_
  rintro e w5 ⟨rfl, hb⟩
  have hA5 := (hb.block w.heap.size (lt_of_some HA4.out)).trans HA4.out
  have HA5 := hid hA5
  have HB5 := hid (HB4.out.trans (hb.mono HB4.out.size))
  have HQ5 := hid (HQ4.out.later hb)
  obtain ⟨q0', q1', q2', q3', q4'⟩ := HQ5.out
  clear hb hA5 q0 q1 q2 q3 q4
  have q0 := q0'
  have q1 := q1'
  have q2 := q2'
  have q3 := q3'
  have q4 := q4'
  clear q0' q1' q2' q3' q4'
  go_wp2_with fail
  refine Code.wp_mono (fun e a' W hh => ?_) (reg10_0 b0 b1 b2 q0 q1 q2)
  obtain ⟨rfl, g', rfl, hg, hbW⟩ := hh
  have hA7 := (hbW.block w.heap.size (lt_of_some HA5.out)).trans HA5.out
  have HG := hid hg
  have HA7 := hid hA7
  have HB7 := hid (HB5.out.trans (hbW.mono HB5.out.size))
  obtain ⟨g0, g1, g2, g3, g4, g5, g6⟩ := cA_load hg
  obtain ⟨a0, a1, a2, a3, a4, a5, a6⟩ := cA_load hA7
  have fA : ∀ k, W.frozen? ⟨w.heap.size, k, none⟩ = false := fun k => by simp [World.frozen?, hA7]
  clear hg hA7 hbW q0 q1 q2 q3 q4
  have HV : Hid (mailT [k0, k1, k2, k3, k4] = none) := by rw [Hid, mailT5, if_neg]; intro e; have := HZ.out; rw [this] at e; exact Bool.noConfusion e.2.2.1
  go_wp2_with fail
  obtain ⟨x1, x2, x3⟩ := putD_is W w.heap.size Dt.zero Dt.zero HA7.out
  refine bodyPost_ret (w := putD W w.heap.size Dt.zero) (results27_run (t := Dt.zero) _ rfl rfl x1) rfl ?_
  rw [HV.out]
  exact ⟨rfl, below_kept HB7.out x3 (by simp) HB7.out.size⟩
set_option maxRecDepth 100000 in
set_option maxHeartbeats 8000000 in
theorem mail1_gmt (s : Bs) (hs : s.length ≤ 100000) (w : World) {x k0 k1 k2 k3 k4 : Bs} (hL : (spl s).1 = [x, k0, k1, k2, k3, k4]) (hx : wdR x = true) (h0 : k0.length ≤ 2) (h2 : k2.length = 4) (hz : low k4 = [103, 109, 116]) : Calls Tryd.prog 27 #[.string (str s)] w fun e w' => e = .returned (readV (mailT [k0, k1, k2, k3, k4])) ∧ Below w.heap.size w w' := by
  have HA := hid (boxed0 Dt.zero w)
  have HB : Hid (Below w.heap.size w (w.alloc (.cells (dtL Dt.zero).toArray 29))) := (Below.refl _ _).alloc (Nat.le_refl _) _
  obtain ⟨f1, f2, f3⟩ := spl_facts s
  have C := hid (rsplit_any s (w.alloc (.cells (dtL Dt.zero).toArray 29)) hs)
  rw [hL] at C f3
  have b0 : k0.length ≤ 1000000 := by have := f3 k0 (by simp); omega
  have b1 : k1.length ≤ 1000000 := by have := f3 k1 (by simp); omega
  have b2 : k2.length ≤ 1000000 := by have := f3 k2 (by simp); omega
  have b3 : k3.length ≤ 1000000 := by have := f3 k3 (by simp); omega
  have b4 : k4.length ≤ 1000000 := by have := f3 k4 (by simp); omega
  have bx : x.length ≤ 1000000 := by have := f3 x (by simp); omega
  have z0 := str_size k0
  have z2 := str_size k2
  clear f1 f2 f3 hL
  go_enter Tryd.func27, Tryd.ntmps27
  go_wp2_with fail
  refine C.out.mono ?_
  rintro e w1 ⟨⟨v, rfl, ho⟩, hb⟩
  have hA1 := (hb.block w.heap.size (by simp)).trans HA.out
  have HA1 := hid hA1
  have HB1 := hid (HB.out.trans (hb.mono HB.out.size))
  obtain ⟨g, n, c, rfl, hn⟩ := ho.some (by simp)
  obtain rfl : n = 6 := by simpa using hn.symm
  obtain ⟨_, c', hv, hcap, _⟩ := ho.sl
  cases hv
  have hcap' : (6 : Int) ≤ c := by simp at hcap; omega
  have HQ1 : Hid (Q1 w1 g k0 k1 k2 k3 k4) := ⟨(so_set ho rfl 1 (by simp) []).1, (so_set ho rfl 2 (by simp) []).1, (so_set ho rfl 3 (by simp) []).1, (so_set ho rfl 4 (by simp) []).1, (so_set ho rfl 5 (by simp) []).1⟩
  have q0 : w1.cell? ⟨g, 0, none⟩ = some (.string (str x)) := (so_set ho rfl 0 (by simp) []).1
  have CW := hid (rweek_any x bx w1)
  rw [hx] at CW
  clear hb ho hn hcap C hA1 hx
  go_wp2_with fail
  refine CW.out.mono ?_
  rintro e w2 ⟨rfl, hb⟩
  have hA2 := (hb.block w.heap.size (lt_of_some HA1.out)).trans HA1.out
  have HA2 := hid hA2
  have HB2 := hid (HB1.out.trans (hb.mono HB1.out.size))
  have HQ2 := hid (HQ1.out.later hb)
  obtain ⟨q0', q1, q2, q3, q4⟩ := HQ2.out
  have q0 := q0'
  clear q0' hb CW
  have d0 : ¬ (2 : Int) < k0.length := by omega
  rw [h2] at z2
  have d2 : ((4 : Int) == 4) = true := rfl
  have HZ := hid (zok_gmt hz)
  have HS0 := hid h0
  have HS2 := hid h2
  obtain ⟨ch, cm, cs, hck⟩ : ∃ a b c, clkR k3 = (a, b, c) := ⟨_, _, _, rfl⟩
  have CK := rclock_any k3 b3
  rw [hck] at CK
  have CKH := hid CK
  have CZ := rzone_any k4 b4
  generalize (zoneT k4).isSome = okv at CZ
  have HD : Hid (mailD k0 k1 k2 k3 k4 = ⟨numR k2, monthR k1, numR k0, ch, cm, cs, (zoneT k4).getD 0⟩) := by unfold Hid mailD; rw [hck]
  generalize (zoneT k4).getD 0 = zz at CZ HD
  have CZH := hid CZ
  have CL := fun w => rlower_any k4 w (by omega)
  have hb1 : ((str [103, 109, 116]).toList == [103, 109, 116]) = true := by rw [toLm]; decide
  have hp1 : (str [103, 109, 116]).toList = [103, 109, 116] := toLm _
  rw [hz] at CL
  have hq1 : ((str [103, 109, 116]).toList == (⟨#[103, 109, 116]⟩ : ByteArray).toList) = true := by rw [show (⟨#[103, 109, 116]⟩ : ByteArray) = str [103, 109, 116] from rfl]; simp
  have CLH := hid CL
  clear h0 h2 hck CK CZ CL hA2 hz
  go_wp2_with fail
  refine (CKH.out _).mono ?_
  rintro e w3 ⟨rfl, hb⟩
  have hA3 := (hb.block w.heap.size (lt_of_some HA2.out)).trans HA2.out
  have HA3 := hid hA3
  have HB3 := hid (HB2.out.trans (hb.mono HB2.out.size))
  have HQ3 := hid (HQ2.out.later hb)
  obtain ⟨q0', q1', q2', q3', q4'⟩ := HQ3.out
  clear hb hA3 q0 q1 q2 q3 q4
  have q0 := q0'
  have q1 := q1'
  have q2 := q2'
  have q3 := q3'
  have q4 := q4'
  clear q0' q1' q2' q3' q4'
  go_wp2_with fail
  refine (CZH.out _).mono ?_
  rintro e w3' ⟨rfl, rfl⟩
  go_wp2_with fail
  refine (CLH.out _).mono ?_
  rintro e w4 ⟨rfl, hb⟩
  have hA4 := (hb.block w.heap.size (lt_of_some HA3.out)).trans HA3.out
  have HA4 := hid hA4
  have HB4 := hid (HB3.out.trans (hb.mono HB3.out.size))
  have HQ4 := hid (HQ3.out.later hb)
  obtain ⟨q0', q1', q2', q3', q4'⟩ := HQ4.out
  clear hb hA4 q0 q1 q2 q3 q4
  have q0 := q0'
  have q1 := q1'
  have q2 := q2'
  have q3 := q3'
  have q4 := q4'
  clear q0' q1' q2' q3' q4'
  go_wp2_with fail
  refine Code.wp_mono (fun e a' W hh => ?_) (reg10_1 b0 b1 b2 q0 q1 q2)
  obtain ⟨rfl, g', rfl, hg, hbW⟩ := hh
  have hA7 := (hbW.block w.heap.size (lt_of_some HA4.out)).trans HA4.out
  have HG := hid hg
  have HA7 := hid hA7
  have HB7 := hid (HB4.out.trans (hbW.mono HB4.out.size))
  obtain ⟨g0, g1, g2, g3, g4, g5, g6⟩ := cA_load hg
  obtain ⟨a0, a1, a2, a3, a4, a5, a6⟩ := cA_load hA7
  have fA : ∀ k, W.frozen? ⟨w.heap.size, k, none⟩ = false := fun k => by simp [World.frozen?, hA7]
  clear hg hA7 hbW q0 q1 q2 q3 q4
  clear a0 a1 a2 a3 a4 a5 a6 fA
  have CP := rright_any ⟨numR k2, monthR k1, numR k0, ch, cm, cs, zz⟩ W
  rw [show dtV ⟨numR k2, monthR k1, numR k0, ch, cm, cs, zz⟩ = .agg #[.int .i64 (numR k2), .int .i64 (monthR k1), .int .i64 (numR k0), .int .i64 ch, .int .i64 cm, .int .i64 cs, .int .i64 zz] from rfl] at CP
  by_cases hr : RightP ⟨numR k2, monthR k1, numR k0, ch, cm, cs, zz⟩
  · rw [show decide (RightP ⟨numR k2, monthR k1, numR k0, ch, cm, cs, zz⟩) = true by simpa using hr] at CP
    have HV : Hid (mailT [k0, k1, k2, k3, k4] = some ⟨numR k2, monthR k1, numR k0, ch, cm, cs, zz⟩) := by rw [Hid, mailT5, HD.out, if_pos ⟨HS0.out, HS2.out, HZ.out, hr⟩]
    have HCP := hid CP
    clear CP hr
    go_wp2_with fail
    refine HCP.out.mono ?_
    rintro e w8 ⟨rfl, hb8⟩
    have hg8 := (hb8.block g' (lt_of_some HG.out)).trans HG.out
    have hA8 := (hb8.block w.heap.size (lt_of_some HA7.out)).trans HA7.out
    have HB8 := hid (HB7.out.trans (hb8.mono HB7.out.size))
    have HA8 := hid hA8
    clear g0 g1 g2 g3 g4 g5 g6
    obtain ⟨g0, g1, g2, g3, g4, g5, g6⟩ := cA_load hg8
    obtain ⟨a0, a1, a2, a3, a4, a5, a6⟩ := cA_load hA8
    have fA : ∀ k, w8.frozen? ⟨w.heap.size, k, none⟩ = false := fun k => by simp [World.frozen?, hA8]
    clear hg8 hA8 hb8
    go_wp2_with fail
    obtain ⟨p1, p2, p3⟩ := putD_is w8 w.heap.size Dt.zero ⟨numR k2, monthR k1, numR k0, ch, cm, cs, zz⟩ HA8.out
    refine bodyPost_ret (w := putD w8 w.heap.size ⟨numR k2, monthR k1, numR k0, ch, cm, cs, zz⟩) (results27_run (t := ⟨numR k2, monthR k1, numR k0, ch, cm, cs, zz⟩) _ rfl rfl p1) rfl ?_
    rw [HV.out]
    exact ⟨rfl, below_kept HB8.out p3 (by simp) HB8.out.size⟩
  · rw [show decide (RightP ⟨numR k2, monthR k1, numR k0, ch, cm, cs, zz⟩) = false by simpa using hr] at CP
    have HV : Hid (mailT [k0, k1, k2, k3, k4] = none) := by rw [Hid, mailT5, HD.out, if_neg]; intro e; exact hr e.2.2.2
    have HCP := hid CP
    clear CP hr
    go_wp2_with fail
    refine HCP.out.mono ?_
    rintro e w8 ⟨rfl, hb8⟩
    have hA8 := (hb8.block w.heap.size (lt_of_some HA7.out)).trans HA7.out
    have HB8 := hid (HB7.out.trans (hb8.mono HB7.out.size))
    have HA8 := hid hA8
    clear g0 g1 g2 g3 g4 g5 g6
    obtain ⟨a0, a1, a2, a3, a4, a5, a6⟩ := cA_load hA8
    have fA : ∀ k, w8.frozen? ⟨w.heap.size, k, none⟩ = false := fun k => by simp [World.frozen?, hA8]
    clear hA8 hb8
    go_wp2_with fail
    obtain ⟨x1, x2, x3⟩ := putD_is w8 w.heap.size Dt.zero Dt.zero HA8.out
    refine bodyPost_ret (w := putD w8 w.heap.size Dt.zero) (results27_run (t := Dt.zero) _ rfl rfl x1) rfl ?_
    rw [HV.out]
    exact ⟨rfl, below_kept HB8.out x3 (by simp) HB8.out.size⟩
set_option maxRecDepth 100000 in
set_option maxHeartbeats 8000000 in
theorem mail1_ut (s : Bs) (hs : s.length ≤ 100000) (w : World) {x k0 k1 k2 k3 k4 : Bs} (hL : (spl s).1 = [x, k0, k1, k2, k3, k4]) (hx : wdR x = true) (h0 : k0.length ≤ 2) (h2 : k2.length = 4) (hz : low k4 = [117, 116]) : Calls Tryd.prog 27 #[.string (str s)] w fun e w' => e = .returned (readV (mailT [k0, k1, k2, k3, k4])) ∧ Below w.heap.size w w' := by
  have HA := hid (boxed0 Dt.zero w)
  have HB : Hid (Below w.heap.size w (w.alloc (.cells (dtL Dt.zero).toArray 29))) := (Below.refl _ _).alloc (Nat.le_refl _) _
  obtain ⟨f1, f2, f3⟩ := spl_facts s
  have C := hid (rsplit_any s (w.alloc (.cells (dtL Dt.zero).toArray 29)) hs)
  rw [hL] at C f3
  have b0 : k0.length ≤ 1000000 := by have := f3 k0 (by simp); omega
  have b1 : k1.length ≤ 1000000 := by have := f3 k1 (by simp); omega
  have b2 : k2.length ≤ 1000000 := by have := f3 k2 (by simp); omega
  have b3 : k3.length ≤ 1000000 := by have := f3 k3 (by simp); omega
  have b4 : k4.length ≤ 1000000 := by have := f3 k4 (by simp); omega
  have bx : x.length ≤ 1000000 := by have := f3 x (by simp); omega
  have z0 := str_size k0
  have z2 := str_size k2
  clear f1 f2 f3 hL
  go_enter Tryd.func27, Tryd.ntmps27
  go_wp2_with fail
  refine C.out.mono ?_
  rintro e w1 ⟨⟨v, rfl, ho⟩, hb⟩
  have hA1 := (hb.block w.heap.size (by simp)).trans HA.out
  have HA1 := hid hA1
  have HB1 := hid (HB.out.trans (hb.mono HB.out.size))
  obtain ⟨g, n, c, rfl, hn⟩ := ho.some (by simp)
  obtain rfl : n = 6 := by simpa using hn.symm
  obtain ⟨_, c', hv, hcap, _⟩ := ho.sl
  cases hv
  have hcap' : (6 : Int) ≤ c := by simp at hcap; omega
  have HQ1 : Hid (Q1 w1 g k0 k1 k2 k3 k4) := ⟨(so_set ho rfl 1 (by simp) []).1, (so_set ho rfl 2 (by simp) []).1, (so_set ho rfl 3 (by simp) []).1, (so_set ho rfl 4 (by simp) []).1, (so_set ho rfl 5 (by simp) []).1⟩
  have q0 : w1.cell? ⟨g, 0, none⟩ = some (.string (str x)) := (so_set ho rfl 0 (by simp) []).1
  have CW := hid (rweek_any x bx w1)
  rw [hx] at CW
  clear hb ho hn hcap C hA1 hx
  go_wp2_with fail
  refine CW.out.mono ?_
  rintro e w2 ⟨rfl, hb⟩
  have hA2 := (hb.block w.heap.size (lt_of_some HA1.out)).trans HA1.out
  have HA2 := hid hA2
  have HB2 := hid (HB1.out.trans (hb.mono HB1.out.size))
  have HQ2 := hid (HQ1.out.later hb)
  obtain ⟨q0', q1, q2, q3, q4⟩ := HQ2.out
  have q0 := q0'
  clear q0' hb CW
  have d0 : ¬ (2 : Int) < k0.length := by omega
  rw [h2] at z2
  have d2 : ((4 : Int) == 4) = true := rfl
  have HZ := hid (zok_ut hz)
  have HS0 := hid h0
  have HS2 := hid h2
  obtain ⟨ch, cm, cs, hck⟩ : ∃ a b c, clkR k3 = (a, b, c) := ⟨_, _, _, rfl⟩
  have CK := rclock_any k3 b3
  rw [hck] at CK
  have CKH := hid CK
  have CZ := rzone_any k4 b4
  generalize (zoneT k4).isSome = okv at CZ
  have HD : Hid (mailD k0 k1 k2 k3 k4 = ⟨numR k2, monthR k1, numR k0, ch, cm, cs, (zoneT k4).getD 0⟩) := by unfold Hid mailD; rw [hck]
  generalize (zoneT k4).getD 0 = zz at CZ HD
  have CZH := hid CZ
  have CL := fun w => rlower_any k4 w (by omega)
  have hb1 : ((str [117, 116]).toList == [103, 109, 116]) = false := by rw [toLm]; decide
  have hb2 : ((str [117, 116]).toList == [117, 116]) = true := by rw [toLm]; decide
  have hp1 : ¬ (str [117, 116]).toList = [103, 109, 116] := by rw [toLm]; decide
  have hp2 : (str [117, 116]).toList = [117, 116] := toLm _
  rw [hz] at CL
  have hq1 : ((str [117, 116]).toList == (⟨#[103, 109, 116]⟩ : ByteArray).toList) = false := by rw [show (⟨#[103, 109, 116]⟩ : ByteArray) = str [103, 109, 116] from rfl, str_eq]; rfl
  have hq2 : ((str [117, 116]).toList == (⟨#[117, 116]⟩ : ByteArray).toList) = true := by rw [show (⟨#[117, 116]⟩ : ByteArray) = str [117, 116] from rfl]; simp
  have CLH := hid CL
  clear h0 h2 hck CK CZ CL hA2 hz
  go_wp2_with fail
  refine (CKH.out _).mono ?_
  rintro e w3 ⟨rfl, hb⟩
  have hA3 := (hb.block w.heap.size (lt_of_some HA2.out)).trans HA2.out
  have HA3 := hid hA3
  have HB3 := hid (HB2.out.trans (hb.mono HB2.out.size))
  have HQ3 := hid (HQ2.out.later hb)
  obtain ⟨q0', q1', q2', q3', q4'⟩ := HQ3.out
  clear hb hA3 q0 q1 q2 q3 q4
  have q0 := q0'
  have q1 := q1'
  have q2 := q2'
  have q3 := q3'
  have q4 := q4'
  clear q0' q1' q2' q3' q4'
  go_wp2_with fail
  refine (CZH.out _).mono ?_
  rintro e w3' ⟨rfl, rfl⟩
  go_wp2_with fail
  refine (CLH.out _).mono ?_
  rintro e w4 ⟨rfl, hb⟩
  have hA4 := (hb.block w.heap.size (lt_of_some HA3.out)).trans HA3.out
  have HA4 := hid hA4
  have HB4 := hid (HB3.out.trans (hb.mono HB3.out.size))
  have HQ4 := hid (HQ3.out.later hb)
  obtain ⟨q0', q1', q2', q3', q4'⟩ := HQ4.out
  clear hb hA4 q0 q1 q2 q3 q4
  have q0 := q0'
  have q1 := q1'
  have q2 := q2'
  have q3 := q3'
  have q4 := q4'
  clear q0' q1' q2' q3' q4'
  go_wp2_with fail
  refine (CLH.out _).mono ?_
  rintro e w5 ⟨rfl, hb⟩
  have hA5 := (hb.block w.heap.size (lt_of_some HA4.out)).trans HA4.out
  have HA5 := hid hA5
  have HB5 := hid (HB4.out.trans (hb.mono HB4.out.size))
  have HQ5 := hid (HQ4.out.later hb)
  obtain ⟨q0', q1', q2', q3', q4'⟩ := HQ5.out
  clear hb hA5 q0 q1 q2 q3 q4
  have q0 := q0'
  have q1 := q1'
  have q2 := q2'
  have q3 := q3'
  have q4 := q4'
  clear q0' q1' q2' q3' q4'
  go_wp2_with fail
  refine Code.wp_mono (fun e a' W hh => ?_) (reg10_1 b0 b1 b2 q0 q1 q2)
  obtain ⟨rfl, g', rfl, hg, hbW⟩ := hh
  have hA7 := (hbW.block w.heap.size (lt_of_some HA5.out)).trans HA5.out
  have HG := hid hg
  have HA7 := hid hA7
  have HB7 := hid (HB5.out.trans (hbW.mono HB5.out.size))
  obtain ⟨g0, g1, g2, g3, g4, g5, g6⟩ := cA_load hg
  obtain ⟨a0, a1, a2, a3, a4, a5, a6⟩ := cA_load hA7
  have fA : ∀ k, W.frozen? ⟨w.heap.size, k, none⟩ = false := fun k => by simp [World.frozen?, hA7]
  clear hg hA7 hbW q0 q1 q2 q3 q4
  clear a0 a1 a2 a3 a4 a5 a6 fA
  have CP := rright_any ⟨numR k2, monthR k1, numR k0, ch, cm, cs, zz⟩ W
  rw [show dtV ⟨numR k2, monthR k1, numR k0, ch, cm, cs, zz⟩ = .agg #[.int .i64 (numR k2), .int .i64 (monthR k1), .int .i64 (numR k0), .int .i64 ch, .int .i64 cm, .int .i64 cs, .int .i64 zz] from rfl] at CP
  by_cases hr : RightP ⟨numR k2, monthR k1, numR k0, ch, cm, cs, zz⟩
  · rw [show decide (RightP ⟨numR k2, monthR k1, numR k0, ch, cm, cs, zz⟩) = true by simpa using hr] at CP
    have HV : Hid (mailT [k0, k1, k2, k3, k4] = some ⟨numR k2, monthR k1, numR k0, ch, cm, cs, zz⟩) := by rw [Hid, mailT5, HD.out, if_pos ⟨HS0.out, HS2.out, HZ.out, hr⟩]
    have HCP := hid CP
    clear CP hr
    go_wp2_with fail
    refine HCP.out.mono ?_
    rintro e w8 ⟨rfl, hb8⟩
    have hg8 := (hb8.block g' (lt_of_some HG.out)).trans HG.out
    have hA8 := (hb8.block w.heap.size (lt_of_some HA7.out)).trans HA7.out
    have HB8 := hid (HB7.out.trans (hb8.mono HB7.out.size))
    have HA8 := hid hA8
    clear g0 g1 g2 g3 g4 g5 g6
    obtain ⟨g0, g1, g2, g3, g4, g5, g6⟩ := cA_load hg8
    obtain ⟨a0, a1, a2, a3, a4, a5, a6⟩ := cA_load hA8
    have fA : ∀ k, w8.frozen? ⟨w.heap.size, k, none⟩ = false := fun k => by simp [World.frozen?, hA8]
    clear hg8 hA8 hb8
    go_wp2_with fail
    obtain ⟨p1, p2, p3⟩ := putD_is w8 w.heap.size Dt.zero ⟨numR k2, monthR k1, numR k0, ch, cm, cs, zz⟩ HA8.out
    refine bodyPost_ret (w := putD w8 w.heap.size ⟨numR k2, monthR k1, numR k0, ch, cm, cs, zz⟩) (results27_run (t := ⟨numR k2, monthR k1, numR k0, ch, cm, cs, zz⟩) _ rfl rfl p1) rfl ?_
    rw [HV.out]
    exact ⟨rfl, below_kept HB8.out p3 (by simp) HB8.out.size⟩
  · rw [show decide (RightP ⟨numR k2, monthR k1, numR k0, ch, cm, cs, zz⟩) = false by simpa using hr] at CP
    have HV : Hid (mailT [k0, k1, k2, k3, k4] = none) := by rw [Hid, mailT5, HD.out, if_neg]; intro e; exact hr e.2.2.2
    have HCP := hid CP
    clear CP hr
    go_wp2_with fail
    refine HCP.out.mono ?_
    rintro e w8 ⟨rfl, hb8⟩
    have hA8 := (hb8.block w.heap.size (lt_of_some HA7.out)).trans HA7.out
    have HB8 := hid (HB7.out.trans (hb8.mono HB7.out.size))
    have HA8 := hid hA8
    clear g0 g1 g2 g3 g4 g5 g6
    obtain ⟨a0, a1, a2, a3, a4, a5, a6⟩ := cA_load hA8
    have fA : ∀ k, w8.frozen? ⟨w.heap.size, k, none⟩ = false := fun k => by simp [World.frozen?, hA8]
    clear hA8 hb8
    go_wp2_with fail
    obtain ⟨x1, x2, x3⟩ := putD_is w8 w.heap.size Dt.zero Dt.zero HA8.out
    refine bodyPost_ret (w := putD w8 w.heap.size Dt.zero) (results27_run (t := Dt.zero) _ rfl rfl x1) rfl ?_
    rw [HV.out]
    exact ⟨rfl, below_kept HB8.out x3 (by simp) HB8.out.size⟩
set_option maxRecDepth 100000 in
set_option maxHeartbeats 8000000 in
theorem mail1_num (s : Bs) (hs : s.length ≤ 100000) (w : World) {x k0 k1 k2 k3 k4 : Bs} (hL : (spl s).1 = [x, k0, k1, k2, k3, k4]) (hx : wdR x = true) (h0 : k0.length ≤ 2) (h2 : k2.length = 4) (hz1 : low k4 ≠ [103, 109, 116]) (hz2 : low k4 ≠ [117, 116]) (hz : (zoneT k4).isSome = true) : Calls Tryd.prog 27 #[.string (str s)] w fun e w' => e = .returned (readV (mailT [k0, k1, k2, k3, k4])) ∧ Below w.heap.size w w' := by
  have HA := hid (boxed0 Dt.zero w)
  have HB : Hid (Below w.heap.size w (w.alloc (.cells (dtL Dt.zero).toArray 29))) := (Below.refl _ _).alloc (Nat.le_refl _) _
  obtain ⟨f1, f2, f3⟩ := spl_facts s
  have C := hid (rsplit_any s (w.alloc (.cells (dtL Dt.zero).toArray 29)) hs)
  rw [hL] at C f3
  have b0 : k0.length ≤ 1000000 := by have := f3 k0 (by simp); omega
  have b1 : k1.length ≤ 1000000 := by have := f3 k1 (by simp); omega
  have b2 : k2.length ≤ 1000000 := by have := f3 k2 (by simp); omega
  have b3 : k3.length ≤ 1000000 := by have := f3 k3 (by simp); omega
  have b4 : k4.length ≤ 1000000 := by have := f3 k4 (by simp); omega
  have bx : x.length ≤ 1000000 := by have := f3 x (by simp); omega
  have z0 := str_size k0
  have z2 := str_size k2
  clear f1 f2 f3 hL
  go_enter Tryd.func27, Tryd.ntmps27
  go_wp2_with fail
  refine C.out.mono ?_
  rintro e w1 ⟨⟨v, rfl, ho⟩, hb⟩
  have hA1 := (hb.block w.heap.size (by simp)).trans HA.out
  have HA1 := hid hA1
  have HB1 := hid (HB.out.trans (hb.mono HB.out.size))
  obtain ⟨g, n, c, rfl, hn⟩ := ho.some (by simp)
  obtain rfl : n = 6 := by simpa using hn.symm
  obtain ⟨_, c', hv, hcap, _⟩ := ho.sl
  cases hv
  have hcap' : (6 : Int) ≤ c := by simp at hcap; omega
  have HQ1 : Hid (Q1 w1 g k0 k1 k2 k3 k4) := ⟨(so_set ho rfl 1 (by simp) []).1, (so_set ho rfl 2 (by simp) []).1, (so_set ho rfl 3 (by simp) []).1, (so_set ho rfl 4 (by simp) []).1, (so_set ho rfl 5 (by simp) []).1⟩
  have q0 : w1.cell? ⟨g, 0, none⟩ = some (.string (str x)) := (so_set ho rfl 0 (by simp) []).1
  have CW := hid (rweek_any x bx w1)
  rw [hx] at CW
  clear hb ho hn hcap C hA1 hx
  go_wp2_with fail
  refine CW.out.mono ?_
  rintro e w2 ⟨rfl, hb⟩
  have hA2 := (hb.block w.heap.size (lt_of_some HA1.out)).trans HA1.out
  have HA2 := hid hA2
  have HB2 := hid (HB1.out.trans (hb.mono HB1.out.size))
  have HQ2 := hid (HQ1.out.later hb)
  obtain ⟨q0', q1, q2, q3, q4⟩ := HQ2.out
  have q0 := q0'
  clear q0' hb CW
  have d0 : ¬ (2 : Int) < k0.length := by omega
  rw [h2] at z2
  have d2 : ((4 : Int) == 4) = true := rfl
  have HZ := hid (zok_num hz)
  have HS0 := hid h0
  have HS2 := hid h2
  obtain ⟨ch, cm, cs, hck⟩ : ∃ a b c, clkR k3 = (a, b, c) := ⟨_, _, _, rfl⟩
  have CK := rclock_any k3 b3
  rw [hck] at CK
  have CKH := hid CK
  have CZ := rzone_any k4 b4
  rw [hz] at CZ
  have HD : Hid (mailD k0 k1 k2 k3 k4 = ⟨numR k2, monthR k1, numR k0, ch, cm, cs, (zoneT k4).getD 0⟩) := by unfold Hid mailD; rw [hck]
  generalize (zoneT k4).getD 0 = zz at CZ HD
  have CZH := hid CZ
  have CL := fun w => rlower_any k4 w (by omega)
  have hq1 : ((str (low k4)).toList == (⟨#[103, 109, 116]⟩ : ByteArray).toList) = false := by rw [show (⟨#[103, 109, 116]⟩ : ByteArray) = str [103, 109, 116] from rfl, str_eq]; exact decide_eq_false hz1
  have hq2 : ((str (low k4)).toList == (⟨#[117, 116]⟩ : ByteArray).toList) = false := by rw [show (⟨#[117, 116]⟩ : ByteArray) = str [117, 116] from rfl, str_eq]; exact decide_eq_false hz2
  have hp1 : ¬ (str (low k4)).toList = [103, 109, 116] := by rw [toLm]; exact hz1
  have hp2 : ¬ (str (low k4)).toList = [117, 116] := by rw [toLm]; exact hz2
  have hb1 : ((str (low k4)).toList == [103, 109, 116]) = false := by rw [toLm]; simpa using hz1
  have hb2 : ((str (low k4)).toList == [117, 116]) = false := by rw [toLm]; simpa using hz2
  generalize low k4 = lk at CL hq1 hq2 hp1 hp2 hb1 hb2
  have CLH := hid CL
  clear h0 h2 hck CK CZ CL hA2 hz hz1 hz2
  go_wp2_with fail
  refine (CKH.out _).mono ?_
  rintro e w3 ⟨rfl, hb⟩
  have hA3 := (hb.block w.heap.size (lt_of_some HA2.out)).trans HA2.out
  have HA3 := hid hA3
  have HB3 := hid (HB2.out.trans (hb.mono HB2.out.size))
  have HQ3 := hid (HQ2.out.later hb)
  obtain ⟨q0', q1', q2', q3', q4'⟩ := HQ3.out
  clear hb hA3 q0 q1 q2 q3 q4
  have q0 := q0'
  have q1 := q1'
  have q2 := q2'
  have q3 := q3'
  have q4 := q4'
  clear q0' q1' q2' q3' q4'
  go_wp2_with fail
  refine (CZH.out _).mono ?_
  rintro e w3' ⟨rfl, rfl⟩
  go_wp2_with fail
  refine (CLH.out _).mono ?_
  rintro e w4 ⟨rfl, hb⟩
  have hA4 := (hb.block w.heap.size (lt_of_some HA3.out)).trans HA3.out
  have HA4 := hid hA4
  have HB4 := hid (HB3.out.trans (hb.mono HB3.out.size))
  have HQ4 := hid (HQ3.out.later hb)
  obtain ⟨q0', q1', q2', q3', q4'⟩ := HQ4.out
  clear hb hA4 q0 q1 q2 q3 q4
  have q0 := q0'
  have q1 := q1'
  have q2 := q2'
  have q3 := q3'
  have q4 := q4'
  clear q0' q1' q2' q3' q4'
  go_wp2_with fail
  refine (CLH.out _).mono ?_
  rintro e w5 ⟨rfl, hb⟩
  have hA5 := (hb.block w.heap.size (lt_of_some HA4.out)).trans HA4.out
  have HA5 := hid hA5
  have HB5 := hid (HB4.out.trans (hb.mono HB4.out.size))
  have HQ5 := hid (HQ4.out.later hb)
  obtain ⟨q0', q1', q2', q3', q4'⟩ := HQ5.out
  clear hb hA5 q0 q1 q2 q3 q4
  have q0 := q0'
  have q1 := q1'
  have q2 := q2'
  have q3 := q3'
  have q4 := q4'
  clear q0' q1' q2' q3' q4'
  go_wp2_with fail
  refine Code.wp_mono (fun e a' W hh => ?_) (reg10_1 b0 b1 b2 q0 q1 q2)
  obtain ⟨rfl, g', rfl, hg, hbW⟩ := hh
  have hA7 := (hbW.block w.heap.size (lt_of_some HA5.out)).trans HA5.out
  have HG := hid hg
  have HA7 := hid hA7
  have HB7 := hid (HB5.out.trans (hbW.mono HB5.out.size))
  obtain ⟨g0, g1, g2, g3, g4, g5, g6⟩ := cA_load hg
  obtain ⟨a0, a1, a2, a3, a4, a5, a6⟩ := cA_load hA7
  have fA : ∀ k, W.frozen? ⟨w.heap.size, k, none⟩ = false := fun k => by simp [World.frozen?, hA7]
  clear hg hA7 hbW q0 q1 q2 q3 q4
  clear a0 a1 a2 a3 a4 a5 a6 fA
  have CP := rright_any ⟨numR k2, monthR k1, numR k0, ch, cm, cs, zz⟩ W
  rw [show dtV ⟨numR k2, monthR k1, numR k0, ch, cm, cs, zz⟩ = .agg #[.int .i64 (numR k2), .int .i64 (monthR k1), .int .i64 (numR k0), .int .i64 ch, .int .i64 cm, .int .i64 cs, .int .i64 zz] from rfl] at CP
  by_cases hr : RightP ⟨numR k2, monthR k1, numR k0, ch, cm, cs, zz⟩
  · rw [show decide (RightP ⟨numR k2, monthR k1, numR k0, ch, cm, cs, zz⟩) = true by simpa using hr] at CP
    have HV : Hid (mailT [k0, k1, k2, k3, k4] = some ⟨numR k2, monthR k1, numR k0, ch, cm, cs, zz⟩) := by rw [Hid, mailT5, HD.out, if_pos ⟨HS0.out, HS2.out, HZ.out, hr⟩]
    have HCP := hid CP
    clear CP hr
    go_wp2_with fail
    refine HCP.out.mono ?_
    rintro e w8 ⟨rfl, hb8⟩
    have hg8 := (hb8.block g' (lt_of_some HG.out)).trans HG.out
    have hA8 := (hb8.block w.heap.size (lt_of_some HA7.out)).trans HA7.out
    have HB8 := hid (HB7.out.trans (hb8.mono HB7.out.size))
    have HA8 := hid hA8
    clear g0 g1 g2 g3 g4 g5 g6
    obtain ⟨g0, g1, g2, g3, g4, g5, g6⟩ := cA_load hg8
    obtain ⟨a0, a1, a2, a3, a4, a5, a6⟩ := cA_load hA8
    have fA : ∀ k, w8.frozen? ⟨w.heap.size, k, none⟩ = false := fun k => by simp [World.frozen?, hA8]
    clear hg8 hA8 hb8
    go_wp2_with fail
    obtain ⟨p1, p2, p3⟩ := putD_is w8 w.heap.size Dt.zero ⟨numR k2, monthR k1, numR k0, ch, cm, cs, zz⟩ HA8.out
    refine bodyPost_ret (w := putD w8 w.heap.size ⟨numR k2, monthR k1, numR k0, ch, cm, cs, zz⟩) (results27_run (t := ⟨numR k2, monthR k1, numR k0, ch, cm, cs, zz⟩) _ rfl rfl p1) rfl ?_
    rw [HV.out]
    exact ⟨rfl, below_kept HB8.out p3 (by simp) HB8.out.size⟩
  · rw [show decide (RightP ⟨numR k2, monthR k1, numR k0, ch, cm, cs, zz⟩) = false by simpa using hr] at CP
    have HV : Hid (mailT [k0, k1, k2, k3, k4] = none) := by rw [Hid, mailT5, HD.out, if_neg]; intro e; exact hr e.2.2.2
    have HCP := hid CP
    clear CP hr
    go_wp2_with fail
    refine HCP.out.mono ?_
    rintro e w8 ⟨rfl, hb8⟩
    have hA8 := (hb8.block w.heap.size (lt_of_some HA7.out)).trans HA7.out
    have HB8 := hid (HB7.out.trans (hb8.mono HB7.out.size))
    have HA8 := hid hA8
    clear g0 g1 g2 g3 g4 g5 g6
    obtain ⟨a0, a1, a2, a3, a4, a5, a6⟩ := cA_load hA8
    have fA : ∀ k, w8.frozen? ⟨w.heap.size, k, none⟩ = false := fun k => by simp [World.frozen?, hA8]
    clear hA8 hb8
    go_wp2_with fail
    obtain ⟨x1, x2, x3⟩ := putD_is w8 w.heap.size Dt.zero Dt.zero HA8.out
    refine bodyPost_ret (w := putD w8 w.heap.size Dt.zero) (results27_run (t := Dt.zero) _ rfl rfl x1) rfl ?_
    rw [HV.out]
    exact ⟨rfl, below_kept HB8.out x3 (by simp) HB8.out.size⟩
set_option maxRecDepth 100000 in
set_option maxHeartbeats 8000000 in
theorem mail1_bad (s : Bs) (hs : s.length ≤ 100000) (w : World) {x k0 k1 k2 k3 k4 : Bs} (hL : (spl s).1 = [x, k0, k1, k2, k3, k4]) (hx : wdR x = true) (h0 : k0.length ≤ 2) (h2 : k2.length = 4) (hz1 : low k4 ≠ [103, 109, 116]) (hz2 : low k4 ≠ [117, 116]) (hz : (zoneT k4).isSome = false) : Calls Tryd.prog 27 #[.string (str s)] w fun e w' => e = .returned (readV (mailT [k0, k1, k2, k3, k4])) ∧ Below w.heap.size w w' := by
  have HA := hid (boxed0 Dt.zero w)
  have HB : Hid (Below w.heap.size w (w.alloc (.cells (dtL Dt.zero).toArray 29))) := (Below.refl _ _).alloc (Nat.le_refl _) _
  obtain ⟨f1, f2, f3⟩ := spl_facts s
  have C := hid (rsplit_any s (w.alloc (.cells (dtL Dt.zero).toArray 29)) hs)
  rw [hL] at C f3
  have b0 : k0.length ≤ 1000000 := by have := f3 k0 (by simp); omega
  have b1 : k1.length ≤ 1000000 := by have := f3 k1 (by simp); omega
  have b2 : k2.length ≤ 1000000 := by have := f3 k2 (by simp); omega
  have b3 : k3.length ≤ 1000000 := by have := f3 k3 (by simp); omega
  have b4 : k4.length ≤ 1000000 := by have := f3 k4 (by simp); omega
  have bx : x.length ≤ 1000000 := by have := f3 x (by simp); omega
  have z0 := str_size k0
  have z2 := str_size k2
  clear f1 f2 f3 hL
  go_enter Tryd.func27, Tryd.ntmps27
  go_wp2_with fail
  refine C.out.mono ?_
  rintro e w1 ⟨⟨v, rfl, ho⟩, hb⟩
  have hA1 := (hb.block w.heap.size (by simp)).trans HA.out
  have HA1 := hid hA1
  have HB1 := hid (HB.out.trans (hb.mono HB.out.size))
  obtain ⟨g, n, c, rfl, hn⟩ := ho.some (by simp)
  obtain rfl : n = 6 := by simpa using hn.symm
  obtain ⟨_, c', hv, hcap, _⟩ := ho.sl
  cases hv
  have hcap' : (6 : Int) ≤ c := by simp at hcap; omega
  have HQ1 : Hid (Q1 w1 g k0 k1 k2 k3 k4) := ⟨(so_set ho rfl 1 (by simp) []).1, (so_set ho rfl 2 (by simp) []).1, (so_set ho rfl 3 (by simp) []).1, (so_set ho rfl 4 (by simp) []).1, (so_set ho rfl 5 (by simp) []).1⟩
  have q0 : w1.cell? ⟨g, 0, none⟩ = some (.string (str x)) := (so_set ho rfl 0 (by simp) []).1
  have CW := hid (rweek_any x bx w1)
  rw [hx] at CW
  clear hb ho hn hcap C hA1 hx
  go_wp2_with fail
  refine CW.out.mono ?_
  rintro e w2 ⟨rfl, hb⟩
  have hA2 := (hb.block w.heap.size (lt_of_some HA1.out)).trans HA1.out
  have HA2 := hid hA2
  have HB2 := hid (HB1.out.trans (hb.mono HB1.out.size))
  have HQ2 := hid (HQ1.out.later hb)
  obtain ⟨q0', q1, q2, q3, q4⟩ := HQ2.out
  have q0 := q0'
  clear q0' hb CW
  have d0 : ¬ (2 : Int) < k0.length := by omega
  rw [h2] at z2
  have d2 : ((4 : Int) == 4) = true := rfl
  have HZ := hid (zok_bad hz1 hz2 hz)
  have HS0 := hid h0
  have HS2 := hid h2
  obtain ⟨ch, cm, cs, hck⟩ : ∃ a b c, clkR k3 = (a, b, c) := ⟨_, _, _, rfl⟩
  have CK := rclock_any k3 b3
  rw [hck] at CK
  have CKH := hid CK
  have CZ := rzone_any k4 b4
  rw [hz] at CZ
  have HD : Hid (mailD k0 k1 k2 k3 k4 = ⟨numR k2, monthR k1, numR k0, ch, cm, cs, (zoneT k4).getD 0⟩) := by unfold Hid mailD; rw [hck]
  generalize (zoneT k4).getD 0 = zz at CZ HD
  have CZH := hid CZ
  have CL := fun w => rlower_any k4 w (by omega)
  have hq1 : ((str (low k4)).toList == (⟨#[103, 109, 116]⟩ : ByteArray).toList) = false := by rw [show (⟨#[103, 109, 116]⟩ : ByteArray) = str [103, 109, 116] from rfl, str_eq]; exact decide_eq_false hz1
  have hq2 : ((str (low k4)).toList == (⟨#[117, 116]⟩ : ByteArray).toList) = false := by rw [show (⟨#[117, 116]⟩ : ByteArray) = str [117, 116] from rfl, str_eq]; exact decide_eq_false hz2
  have hp1 : ¬ (str (low k4)).toList = [103, 109, 116] := by rw [toLm]; exact hz1
  have hp2 : ¬ (str (low k4)).toList = [117, 116] := by rw [toLm]; exact hz2
  have hb1 : ((str (low k4)).toList == [103, 109, 116]) = false := by rw [toLm]; simpa using hz1
  have hb2 : ((str (low k4)).toList == [117, 116]) = false := by rw [toLm]; simpa using hz2
  generalize low k4 = lk at CL hq1 hq2 hp1 hp2 hb1 hb2
  have CLH := hid CL
  clear h0 h2 hck CK CZ CL hA2 hz hz1 hz2
  go_wp2_with fail
  refine (CKH.out _).mono ?_
  rintro e w3 ⟨rfl, hb⟩
  have hA3 := (hb.block w.heap.size (lt_of_some HA2.out)).trans HA2.out
  have HA3 := hid hA3
  have HB3 := hid (HB2.out.trans (hb.mono HB2.out.size))
  have HQ3 := hid (HQ2.out.later hb)
  obtain ⟨q0', q1', q2', q3', q4'⟩ := HQ3.out
  clear hb hA3 q0 q1 q2 q3 q4
  have q0 := q0'
  have q1 := q1'
  have q2 := q2'
  have q3 := q3'
  have q4 := q4'
  clear q0' q1' q2' q3' q4'
  go_wp2_with fail
  refine (CZH.out _).mono ?_
  rintro e w3' ⟨rfl, rfl⟩
  go_wp2_with fail
  refine (CLH.out _).mono ?_
  rintro e w4 ⟨rfl, hb⟩
  have hA4 := (hb.block w.heap.size (lt_of_some HA3.out)).trans HA3.out
  have HA4 := hid hA4
  have HB4 := hid (HB3.out.trans (hb.mono HB3.out.size))
  have HQ4 := hid (HQ3.out.later hb)
  obtain ⟨q0', q1', q2', q3', q4'⟩ := HQ4.out
  clear hb hA4 q0 q1 q2 q3 q4
  have q0 := q0'
  have q1 := q1'
  have q2 := q2'
  have q3 := q3'
  have q4 := q4'
  clear q0' q1' q2' q3' q4'
  go_wp2_with fail
  refine (CLH.out _).mono ?_
  rintro e w5 ⟨rfl, hb⟩
  have hA5 := (hb.block w.heap.size (lt_of_some HA4.out)).trans HA4.out
  have HA5 := hid hA5
  have HB5 := hid (HB4.out.trans (hb.mono HB4.out.size))
  have HQ5 := hid (HQ4.out.later hb)
  obtain ⟨q0', q1', q2', q3', q4'⟩ := HQ5.out
  clear hb hA5 q0 q1 q2 q3 q4
  have q0 := q0'
  have q1 := q1'
  have q2 := q2'
  have q3 := q3'
  have q4 := q4'
  clear q0' q1' q2' q3' q4'
  go_wp2_with fail
  refine Code.wp_mono (fun e a' W hh => ?_) (reg10_1 b0 b1 b2 q0 q1 q2)
  obtain ⟨rfl, g', rfl, hg, hbW⟩ := hh
  have hA7 := (hbW.block w.heap.size (lt_of_some HA5.out)).trans HA5.out
  have HG := hid hg
  have HA7 := hid hA7
  have HB7 := hid (HB5.out.trans (hbW.mono HB5.out.size))
  obtain ⟨g0, g1, g2, g3, g4, g5, g6⟩ := cA_load hg
  obtain ⟨a0, a1, a2, a3, a4, a5, a6⟩ := cA_load hA7
  have fA : ∀ k, W.frozen? ⟨w.heap.size, k, none⟩ = false := fun k => by simp [World.frozen?, hA7]
  clear hg hA7 hbW q0 q1 q2 q3 q4
  have HV : Hid (mailT [k0, k1, k2, k3, k4] = none) := by rw [Hid, mailT5, if_neg]; intro e; have := HZ.out; rw [this] at e; exact Bool.noConfusion e.2.2.1
  go_wp2_with fail
  obtain ⟨x1, x2, x3⟩ := putD_is W w.heap.size Dt.zero Dt.zero HA7.out
  refine bodyPost_ret (w := putD W w.heap.size Dt.zero) (results27_run (t := Dt.zero) _ rfl rfl x1) rfl ?_
  rw [HV.out]
  exact ⟨rfl, below_kept HB7.out x3 (by simp) HB7.out.size⟩
end Go.Proofs.YtnjdgbbdjkhpoaaDoor
