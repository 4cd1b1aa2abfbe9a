/- What this text holds: the document's Print. (Written by genr8.py.) -/
import Derived.Test.YtnjdgbbdjkhpoaaDoorR7
namespace Go.Proofs.YtnjdgbbdjkhpoaaDoor
open Go.RowKit
set_option linter.unusedVariables false
set_option linter.unusedSimpArgs false

theorem rprint_neg (t : Dt) (h : t.z < 0) : str (printN t 45) = str (dayN t.d) ++ { data := #[45] } ++ str (monthN t.mo) ++ { data := #[45] } ++ str (two (t.y / 100)) ++ str (two t.y) ++ { data := #[32] } ++ str (two t.h) ++ { data := #[58] } ++ str (two t.mi) ++ { data := #[58] } ++ str (two t.s) ++ { data := #[32] } ++ { data := #[45] } ++ str (two (-t.z / 60)) ++ str (two (-t.z % 60)) := by
  rw [show ({ data := #[45] } : ByteArray) = str [45] from rfl, show ({ data := #[32] } : ByteArray) = str [32] from rfl, show ({ data := #[58] } : ByteArray) = str [58] from rfl]
  simp only [app_str]
  congr 1
  simp [printN, four, zoneN, h]
theorem rprint_pos (t : Dt) (h : ¬ t.z < 0) : str (printN t 45) = str (dayN t.d) ++ { data := #[45] } ++ str (monthN t.mo) ++ { data := #[45] } ++ str (two (t.y / 100)) ++ str (two t.y) ++ { data := #[32] } ++ str (two t.h) ++ { data := #[58] } ++ str (two t.mi) ++ { data := #[58] } ++ str (two t.s) ++ { data := #[32] } ++ { data := #[43] } ++ str (two (t.z / 60)) ++ str (two (t.z % 60)) := by
  rw [show ({ data := #[45] } : ByteArray) = str [45] from rfl, show ({ data := #[32] } : ByteArray) = str [32] from rfl, show ({ data := #[58] } : ByteArray) = str [58] from rfl, show ({ data := #[43] } : ByteArray) = str [43] from rfl]
  simp only [app_str]
  congr 1
  simp [printN, four, zoneN, h]

set_option maxRecDepth 100000 in
set_option maxHeartbeats 8000000 in
theorem rprint_any (t : Dt) (w : World) : Calls Tryd.prog 24 #[dtV t] w fun e w' => e = .returned (.string (str (printV t))) ∧ Below w.heap.size w w' := by
  have HA := hid (boxed0 t w)
  have HB : Hid (Below w.heap.size w (w.alloc (.cells (dtL t).toArray 29))) := (Below.refl _ _).alloc (Nat.le_refl _) _
  obtain ⟨k0, k1, k2, k3, k4, k5, k6⟩ := cA_load HA.out
  have C := rright_any t (w.alloc (.cells (dtL t).toArray 29))
  by_cases ht : RightP t
  · rw [decide_eq_true ht] at C
    have HC := hid C
    have HV : Hid (printV t = printN t 45) := by unfold Hid printV; rw [if_pos ht]
    obtain ⟨⟨h1, h2, h3, h4, h5, h6⟩, g1, g2, g3, g4, g5, g6, g7, g8⟩ := ht
    have hl := long_pos t.y t.mo
    have h6' : t.d ≤ 31 := by omega
    clear C h6 hl
    have HPN := hid (rprint_neg t)
    have HPP := hid (rprint_pos t)
    obtain ⟨y, mo, d, h, mi, s, z⟩ := t
    simp only at h1 h2 h3 h4 h5 h6' g1 g2 g3 g4 g5 g6 g7 g8 HPN HPP
    unfold dtV
    unfold dtL at k0 k1 k2 k3 k4 k5 k6 ⊢
    simp only at k0 k1 k2 k3 k4 k5 k6
    have hs1 : (str (two d)).size = 2 := rfl
    have hsd : (str (dayN d)).size = 2 := by rw [str_size]; unfold dayN; split <;> rfl
    have hsm : (str (monthN mo)).size = 3 := by rw [str_size, month_len' mo h3 h4]
    have c1 : (str (two (y / 100))).size = 2 := rfl
    have c2 : (str (two y)).size = 2 := rfl
    have c3 : (str (two h)).size = 2 := rfl
    have c4 : (str (two mi)).size = 2 := rfl
    have c5 : (str (two s)).size = 2 := rfl
    have v1 := tdiv_pos y 100 (by omega)
    have v2 := wr64 (y / 100) (by omega)
    go_enter Tryd.func24, Tryd.ntmps24
    go_wp2_with fail
    refine HC.out.mono ?_
    rintro e w1 ⟨rfl, hb1⟩
    have hA1 := (hb1.block w.heap.size (by simp)).trans HA.out
    have HB1 := hid (HB.out.trans (hb1.mono (by simp)))
    have HA1 := hid hA1
    clear k0 k1 k2 k3 k4 k5 k6 hb1
    obtain ⟨k0, k1, k2, k3, k4, k5, k6⟩ := cA_load hA1
    simp only at k0 k1 k2 k3 k4 k5 k6
    clear hA1
    go_wp2_with fail
    refine (rtwo_any d (by omega) (by omega) _).mono ?_
    rintro e w2 ⟨rfl, hb2⟩
    have hA2 := (hb2.block w.heap.size (lt_of_some HA1.out)).trans HA1.out
    have HB2 := hid (HB1.out.trans (hb2.mono HB1.out.size))
    have HA2 := hid hA2
    clear k0 k1 k2 k3 k4 k5 k6 hb2
    obtain ⟨k0, k1, k2, k3, k4, k5, k6⟩ := cA_load hA2
    simp only at k0 k1 k2 k3 k4 k5 k6
    clear hA2
    by_cases hd : d < 10
    · have HD : Hid ({ data := #[32] } ++ (str (two d)).extract 1 2 = str (dayN d)) := by
        unfold Hid
        rw [mid_str, show ({ data := #[32] } : ByteArray) = str [32] from rfl, app_str]
        unfold dayN
        rw [if_pos hd]
        rfl
      by_cases hz : z < 0
      · skip
        have z1 := tdiv_pos (-z) 60 (by omega)
        have z2 := tmod_pos (-z) 60 (by omega)
        have z3 := wr64 ((-z) / 60) (by omega)
        have z4 := wr64 ((-z) % 60) (by omega)
        have c6 : (str (two ((-z) / 60))).size = 2 := rfl
        have c7 : (str (two ((-z) % 60))).size = 2 := rfl
        go_wp2_with fail
        try rw [HD.out]
        have q0 := cA_load HA2.out
        have hAc : w2.drew.heap[w.heap.size]? = some (.cells (dtL ⟨y, mo, d, h, mi, s, z⟩).toArray 29 (0, 0)) := HA2.out
        have HBc : Below w.heap.size w w2.drew := HB2.out.drew
        have qc := q0
        clear k0 k1 k2 k3 k4 k5 k6
        go_region_held3 (fun w' => w'.cell? ⟨w.heap.size, 0, none⟩ = some (.int .i64 y) ∧ w'.cell? ⟨w.heap.size, 1, none⟩ = some (.int .i64 mo) ∧ w'.cell? ⟨w.heap.size, 2, none⟩ = some (.int .i64 d) ∧ w'.cell? ⟨w.heap.size, 3, none⟩ = some (.int .i64 h) ∧ w'.cell? ⟨w.heap.size, 4, none⟩ = some (.int .i64 mi) ∧ w'.cell? ⟨w.heap.size, 5, none⟩ = some (.int .i64 s) ∧ w'.cell? ⟨w.heap.size, 6, none⟩ = some (.int .i64 z)) (first | exact qc | exact q0 | go_keep) (first | (go_at_call 48; refine (rtwo_any _ (by omega) (by omega) _).mono ?_; rintro e wk ⟨rfl, hb⟩; have hAc := (hb.block w.heap.size (lt_of_some hAc)).trans hAc; have HBc := HBc.trans (hb.mono HBc.size); have qc := cA_load hAc; clear hb) | (go_at_call 49; refine (months_any _ h3 h4 _).mono ?_; rintro e wk ⟨rfl, hb⟩; have hAc := (hb.block w.heap.size (lt_of_some hAc)).trans hAc; have HBc := HBc.trans (hb.mono HBc.size); have qc := cA_load hAc; clear hb))
        go_wp2_with fail
        go_ret
        rw [HV.out, HPN.out hz]
        exact ⟨rfl, HBc⟩
      · skip
        have z1 := tdiv_pos z 60 (by omega)
        have z2 := tmod_pos z 60 (by omega)
        have z3 := wr64 (z / 60) (by omega)
        have z4 := wr64 (z % 60) (by omega)
        have c6 : (str (two (z / 60))).size = 2 := rfl
        have c7 : (str (two (z % 60))).size = 2 := rfl
        go_wp2_with fail
        try rw [HD.out]
        have q0 := cA_load HA2.out
        have hAc : w2.drew.heap[w.heap.size]? = some (.cells (dtL ⟨y, mo, d, h, mi, s, z⟩).toArray 29 (0, 0)) := HA2.out
        have HBc : Below w.heap.size w w2.drew := HB2.out.drew
        have qc := q0
        clear k0 k1 k2 k3 k4 k5 k6
        go_region_held3 (fun w' => w'.cell? ⟨w.heap.size, 0, none⟩ = some (.int .i64 y) ∧ w'.cell? ⟨w.heap.size, 1, none⟩ = some (.int .i64 mo) ∧ w'.cell? ⟨w.heap.size, 2, none⟩ = some (.int .i64 d) ∧ w'.cell? ⟨w.heap.size, 3, none⟩ = some (.int .i64 h) ∧ w'.cell? ⟨w.heap.size, 4, none⟩ = some (.int .i64 mi) ∧ w'.cell? ⟨w.heap.size, 5, none⟩ = some (.int .i64 s) ∧ w'.cell? ⟨w.heap.size, 6, none⟩ = some (.int .i64 z)) (first | exact qc | exact q0 | go_keep) (first | (go_at_call 48; refine (rtwo_any _ (by omega) (by omega) _).mono ?_; rintro e wk ⟨rfl, hb⟩; have hAc := (hb.block w.heap.size (lt_of_some hAc)).trans hAc; have HBc := HBc.trans (hb.mono HBc.size); have qc := cA_load hAc; clear hb) | (go_at_call 49; refine (months_any _ h3 h4 _).mono ?_; rintro e wk ⟨rfl, hb⟩; have hAc := (hb.block w.heap.size (lt_of_some hAc)).trans hAc; have HBc := HBc.trans (hb.mono HBc.size); have qc := cA_load hAc; clear hb))
        go_wp2_with fail
        go_ret
        rw [HV.out, HPP.out hz]
        exact ⟨rfl, HBc⟩
    · have HD : Hid (str (two d) = str (dayN d)) := by
        unfold Hid dayN
        rw [if_neg hd]
      by_cases hz : z < 0
      · skip
        have z1 := tdiv_pos (-z) 60 (by omega)
        have z2 := tmod_pos (-z) 60 (by omega)
        have z3 := wr64 ((-z) / 60) (by omega)
        have z4 := wr64 ((-z) % 60) (by omega)
        have c6 : (str (two ((-z) / 60))).size = 2 := rfl
        have c7 : (str (two ((-z) % 60))).size = 2 := rfl
        go_wp2_with fail
        try rw [HD.out]
        have q0 := cA_load HA2.out
        have hAc : w2.drew.heap[w.heap.size]? = some (.cells (dtL ⟨y, mo, d, h, mi, s, z⟩).toArray 29 (0, 0)) := HA2.out
        have HBc : Below w.heap.size w w2.drew := HB2.out.drew
        have qc := q0
        clear k0 k1 k2 k3 k4 k5 k6
        go_region_held3 (fun w' => w'.cell? ⟨w.heap.size, 0, none⟩ = some (.int .i64 y) ∧ w'.cell? ⟨w.heap.size, 1, none⟩ = some (.int .i64 mo) ∧ w'.cell? ⟨w.heap.size, 2, none⟩ = some (.int .i64 d) ∧ w'.cell? ⟨w.heap.size, 3, none⟩ = some (.int .i64 h) ∧ w'.cell? ⟨w.heap.size, 4, none⟩ = some (.int .i64 mi) ∧ w'.cell? ⟨w.heap.size, 5, none⟩ = some (.int .i64 s) ∧ w'.cell? ⟨w.heap.size, 6, none⟩ = some (.int .i64 z)) (first | exact qc | exact q0 | go_keep) (first | (go_at_call 48; refine (rtwo_any _ (by omega) (by omega) _).mono ?_; rintro e wk ⟨rfl, hb⟩; have hAc := (hb.block w.heap.size (lt_of_some hAc)).trans hAc; have HBc := HBc.trans (hb.mono HBc.size); have qc := cA_load hAc; clear hb) | (go_at_call 49; refine (months_any _ h3 h4 _).mono ?_; rintro e wk ⟨rfl, hb⟩; have hAc := (hb.block w.heap.size (lt_of_some hAc)).trans hAc; have HBc := HBc.trans (hb.mono HBc.size); have qc := cA_load hAc; clear hb))
        go_wp2_with fail
        go_ret
        rw [HV.out, HPN.out hz]
        exact ⟨rfl, HBc⟩
      · skip
        have z1 := tdiv_pos z 60 (by omega)
        have z2 := tmod_pos z 60 (by omega)
        have z3 := wr64 (z / 60) (by omega)
        have z4 := wr64 (z % 60) (by omega)
        have c6 : (str (two (z / 60))).size = 2 := rfl
        have c7 : (str (two (z % 60))).size = 2 := rfl
        go_wp2_with fail
        try rw [HD.out]
        have q0 := cA_load HA2.out
        have hAc : w2.drew.heap[w.heap.size]? = some (.cells (dtL ⟨y, mo, d, h, mi, s, z⟩).toArray 29 (0, 0)) := HA2.out
        have HBc : Below w.heap.size w w2.drew := HB2.out.drew
        have qc := q0
        clear k0 k1 k2 k3 k4 k5 k6
        go_region_held3 (fun w' => w'.cell? ⟨w.heap.size, 0, none⟩ = some (.int .i64 y) ∧ w'.cell? ⟨w.heap.size, 1, none⟩ = some (.int .i64 mo) ∧ w'.cell? ⟨w.heap.size, 2, none⟩ = some (.int .i64 d) ∧ w'.cell? ⟨w.heap.size, 3, none⟩ = some (.int .i64 h) ∧ w'.cell? ⟨w.heap.size, 4, none⟩ = some (.int .i64 mi) ∧ w'.cell? ⟨w.heap.size, 5, none⟩ = some (.int .i64 s) ∧ w'.cell? ⟨w.heap.size, 6, none⟩ = some (.int .i64 z)) (first | exact qc | exact q0 | go_keep) (first | (go_at_call 48; refine (rtwo_any _ (by omega) (by omega) _).mono ?_; rintro e wk ⟨rfl, hb⟩; have hAc := (hb.block w.heap.size (lt_of_some hAc)).trans hAc; have HBc := HBc.trans (hb.mono HBc.size); have qc := cA_load hAc; clear hb) | (go_at_call 49; refine (months_any _ h3 h4 _).mono ?_; rintro e wk ⟨rfl, hb⟩; have hAc := (hb.block w.heap.size (lt_of_some hAc)).trans hAc; have HBc := HBc.trans (hb.mono HBc.size); have qc := cA_load hAc; clear hb))
        go_wp2_with fail
        go_ret
        rw [HV.out, HPP.out hz]
        exact ⟨rfl, HBc⟩
  · rw [decide_eq_false ht] at C
    have HC := hid C
    have HV : Hid (printV t = []) := by unfold Hid printV; rw [if_neg ht]
    clear C ht
    obtain ⟨y, mo, d, h, mi, s, z⟩ := t
    unfold dtV
    unfold dtL at k0 k1 k2 k3 k4 k5 k6 ⊢
    simp only at k0 k1 k2 k3 k4 k5 k6
    go_enter Tryd.func24, Tryd.ntmps24
    go_wp2_with fail
    refine HC.out.mono ?_
    rintro e w1 ⟨rfl, hb1⟩
    have HB1 := hid (HB.out.trans (hb1.mono (by simp)))
    clear k0 k1 k2 k3 k4 k5 k6 hb1
    go_wp2_with fail
    go_ret
    rw [HV.out]
    exact ⟨rfl, HB1.out⟩
end Go.Proofs.YtnjdgbbdjkhpoaaDoor
