/- What this text holds: a date's text, as the program tells it. -/
import Derived.Test.YtnjdgbbdjkhpoaaDoorV1
import Derived.Deep.RegionHeld3
namespace Go.Proofs.YtnjdgbbdjkhpoaaDoor
open Go.RowKit
set_option linter.unusedVariables false
set_option linter.unusedSimpArgs false

theorem tmod_pos (x k : Int) (h : 0 ≤ x) : x.tmod k = x % k := Int.tmod_eq_emod_of_nonneg h
theorem cons_str (c : UInt8) (l : Bs) : str (c :: l) = ⟨#[c]⟩ ++ str l := by
  rw [show (⟨#[c]⟩ : ByteArray) = str [c] from rfl, app_str]
  rfl
set_option maxRecDepth 100000 in
set_option maxHeartbeats 1000000 in
theorem zoned_any (z : Int) (h0 : -1439 ≤ z) (h1 : z ≤ 1439) (w : World) : Calls Tryd.prog 47 #[.int .i64 z] w fun e w' => e = .returned (.string (str (zoneN z))) ∧ w' = w := by
  by_cases h : z < 0
  · have HZ : Hid (str (zoneN z) = ⟨#[45]⟩ ++ str (two (-z / 60)) ++ str (two (-z % 60))) := by unfold Hid zoneN; rw [if_pos h, cons_str, ← app_str, ByteArray.append_assoc]
    have e1 := tdiv_pos (-z) 60 (by omega)
    have e2 := tmod_pos (-z) 60 (by omega)
    have hs1 := str_size (two (-z / 60))
    have hs2 := str_size (two (-z % 60))
    have hs3 : (⟨#[45]⟩ : ByteArray).size = 1 := rfl
    go_enter Tryd.func47, Tryd.ntmps47
    go_wp2_with (first | (go_at_call 46; refine (digits2 _ (by omega) (by omega) _).mono ?_; rintro e w' ⟨rfl, rfl⟩))
    go_ret
    rw [HZ.out]
    exact ⟨rfl, rfl⟩
  · have HZ : Hid (str (zoneN z) = ⟨#[43]⟩ ++ str (two (z / 60)) ++ str (two (z % 60))) := by unfold Hid zoneN; rw [if_neg h, cons_str, ← app_str, ByteArray.append_assoc]
    have e1 := tdiv_pos z 60 (by omega)
    have e2 := tmod_pos z 60 (by omega)
    have hs1 := str_size (two (z / 60))
    have hs2 := str_size (two (z % 60))
    go_enter Tryd.func47, Tryd.ntmps47
    go_wp2_with (first | (go_at_call 46; refine (digits2 _ (by omega) (by omega) _).mono ?_; rintro e w' ⟨rfl, rfl⟩))
    go_ret
    rw [HZ.out]
    exact ⟨rfl, rfl⟩

/-- A date lies in a block of its own. -/
structure PAt (w0 : World) (b : Nat) (t : Dt) (w : World) : Prop where
  at_ : w.heap[b]? = some (.cells (dtL t).toArray 29 (0, 0))
  env : Env w
  below : Below w0.heap.size w0 w
theorem PAt.later {w0 w w' : World} {b : Nat} {t : Dt} (h : PAt w0 b t w) (hb : Below w.heap.size w w') : PAt w0 b t w' :=
  ⟨(hb.block b (lt_of_some h.at_)).trans h.at_, h.env.later hb, h.below.trans (hb.mono h.below.size)⟩
theorem PAt.ends {w0 w : World} {b : Nat} {t : Dt} (h : PAt w0 b t w) : w.cell? ⟨b, 0, none⟩ = some (.int .i64 t.y) ∧ w.cell? ⟨b, 6, none⟩ = some (.int .i64 t.z) := ⟨(cA_load h.at_).1, (cA_load h.at_).2.2.2.2.2.2⟩
theorem PAt.drew {w0 w : World} {b : Nat} {t : Dt} (h : PAt w0 b t w) : PAt w0 b t w.drew := ⟨h.at_, h.env, h.below.drew⟩
theorem PAt.drewN {w0 w : World} {b : Nat} {t : Dt} (h : PAt w0 b t w) (n : Nat) : PAt w0 b t (w.drewN n) := ⟨h.at_, h.env, ⟨h.below.os, h.below.tape, h.below.output, h.below.size, h.below.block⟩⟩
theorem boxed (t : Dt) {w : World} (hE : Env w) : PAt w w.heap.size t (w.alloc (.cells (dtL t).toArray 29)) :=
  ⟨heap_alloc_new _ _, hE.later ((Below.refl _ _).alloc (Nat.le_refl _) _), (Below.refl _ _).alloc (Nat.le_refl _) _⟩

def printV (t : Dt) : Bs := if RightP t then printN t 45 else []
theorem two_len (n : Int) : (two n).length = 2 := rfl
theorem four_len (n : Int) : (four n).length = 4 := rfl
theorem zone_len' (z : Int) : (zoneN z).length = 5 := by unfold zoneN; split <;> rfl
theorem month_len' (m : Int) (h0 : 1 ≤ m) (h1 : m ≤ 12) : (monthN m).length = 3 := by
  rcases month_cases h0 h1 with rfl | rfl | rfl | rfl | rfl | rfl | rfl | rfl | rfl | rfl | rfl | rfl <;> rfl

theorem print_str (t : Dt) : str (printN t 45) = str (dayN t.d) ++ { data := #[45] } ++ str (monthN t.mo) ++ { data := #[45] } ++ str (four t.y) ++ { data := #[32] } ++ (str (two t.h) ++ { data := #[58] } ++ str (two t.mi) ++ { data := #[58] } ++ str (two t.s)) ++ { data := #[32] } ++ str (zoneN t.z) := by
  rw [show ({ data := #[45] } : ByteArray) = str [45] from rfl, show ({ data := #[32] } : ByteArray) = str [32] from rfl, show ({ data := #[58] } : ByteArray) = str [58] from rfl]
  simp only [app_str]
  congr 1
  simp [printN]

set_option maxRecDepth 100000 in
set_option maxHeartbeats 4000000 in
theorem print_any (t : Dt) {w : World} (hE : Env w) : Calls Tryd.prog 23 #[dtV t] w fun e w' => e = .returned (.string (str (printV t))) ∧ Below w.heap.size w w' := by
  have hP := boxed t hE
  have HP := hid hP
  obtain ⟨k0, k1, k2, k3, k4, k5, k6⟩ := cA_load hP.at_
  clear hP
  by_cases ht : RightP t
  · have C := right_any t (w.alloc (.cells (dtL t).toArray 29))
    rw [decide_eq_true ht] at C
    have HC := hid C
    have HT := hid ht
    have HV : Hid (printV t = printN t 45) := by unfold Hid printV; rw [if_pos ht]
    obtain ⟨⟨h1, h2, h3, h4, h5, h6⟩, g1, g2, g3, g4, g5, g6, g7, g8⟩ := ht
    have hl := long_pos t.y t.mo
    have h6' : t.d ≤ 31 := by omega
    clear C h6 hl
    obtain ⟨y, mo, d, h, mi, s, z⟩ := t
    simp only at h1 h2 h3 h4 h5 h6' g1 g2 g3 g4 g5 g6 g7 g8
    unfold dtV
    have D0 : Hid (dtL ⟨y, mo, d, h, mi, s, z⟩ = [.int .i64 y, .int .i64 mo, .int .i64 d, .int .i64 h, .int .i64 mi, .int .i64 s, .int .i64 z]) := rfl
    unfold dtL at k0 k1 k2 k3 k4 k5 k6 ⊢
    simp only at k0 k1 k2 k3 k4 k5 k6
    go_enter Tryd.func23, Tryd.ntmps23
    go_wp2_with fail
    refine HC.out.mono ?_
    rintro e w1 ⟨rfl, hb1⟩
    have hP1 := HP.out.later hb1
    have HP1 := hid hP1
    clear k0 k1 k2 k3 k4 k5 k6
    obtain ⟨k0, k1, k2, k3, k4, k5, k6⟩ := cA_load hP1.at_
    simp only at k0 k1 k2 k3 k4 k5 k6
    clear hP1 hb1
    have hs1 : (str (two d)).size = 2 := rfl
    have hx : 0 < (str (two d)).size := by rw [hs1]; omega
    have hx0 : (str (two d))[0]'hx = dg (d / 10) := rfl
    have hsd : (str (dayN d)).size = 2 := by rw [str_size]; unfold dayN; split <;> rfl
    have hsm : (str (monthN mo)).size = 3 := by rw [str_size, month_len' mo h3 h4]
    have c2 : (str (two h)).size = 2 := rfl
    have c3 : (str (two mi)).size = 2 := rfl
    have c4 : (str (two s)).size = 2 := rfl
    have c5 : (str (four y)).size = 4 := rfl
    have HM : ({ data := #[74, 97, 110, 70, 101, 98, 77, 97, 114, 65, 112, 114, 77, 97, 121, 74, 117, 110, 74, 117, 108, 65, 117, 103, 83, 101, 112, 79, 99, 116, 78, 111, 118, 68, 101, 99] } : ByteArray).extract (3 * mo - 3).toNat (3 * mo).toNat = str (monthN mo) := by
      have := mid_str months (3 * mo - 3).toNat (3 * mo).toNat
      rw [show (3 * mo).toNat - (3 * mo - 3).toNat = 3 by omega, show (3 * mo - 3).toNat = 3 * (mo - 1).toNat by omega] at this
      rw [show (3 * mo - 3).toNat = 3 * (mo - 1).toNat by omega]
      exact this
    have HM0 := hid HM
    clear HM
    by_cases hd : d < 10
    · have hz : (((dg (d / 10)).toNat : Int) == 48) = true := by rw [dg_zero (n := d / 10) (by omega) (by omega)]; rfl
      have HD0 : Hid ({ data := #[32] } ++ (str (two d)).extract 1 2 = str (dayN d)) := by
        unfold Hid
        rw [mid_str, show ({ data := #[32] } : ByteArray) = str [32] from rfl, app_str]
        unfold dayN
        rw [if_pos hd]
        rfl
      go_wp2_with (first | (go_at_call 46; refine (digits2 _ (by omega) (by omega) _).mono ?_; rintro e w' ⟨rfl, rfl⟩))
      have HM := HM0.out
      have HD := HD0.out
      rw [HD]
      clear hz hx hx0 hs1 HD
      rw [HM]
      clear HM
      go_quiet ((go_at_call 46; exact Calls.quiet_of_same (digits2 _ (by omega) (by omega) _)))
      have HP2 := hid (HP1.out.drewN nq)
      have hP2 := HP2.out
      generalize w'.drewN nq = w2 at HP2 hP2 ⊢
      clear k0 k1 k2 k3 k4 k5 k6
      obtain ⟨k0, k1, k2, k3, k4, k5, k6⟩ := cA_load hP2.at_
      simp only at k0 k1 k2 k3 k4 k5 k6
      clear k1 k2 k3 k4 k5
      have c8 := str_size (zoneN z)
      have c9 := zone_len' z
      rw [c9] at c8
      have hp0 := hP2
      have hp1 := hP2.drew
      go_wp2_with fail
      go_region_held3 (fun w' => w'.cell? ⟨w.heap.size, 0, none⟩ = some (.int .i64 y) ∧ w'.cell? ⟨w.heap.size, 6, none⟩ = some (.int .i64 z)) (first | exact ⟨k0, k6⟩ | exact hq3 | go_keep) (first | (go_at_call 46; refine (digits4 y (by omega) (by omega) hp1.env).mono ?_; rintro e w3 ⟨rfl, hb3⟩; have hp3 := hp1.later hb3; have hq3 := hp3.ends) | (go_at_call 47; refine (zoned_any z g7 g8 _).mono ?_; rintro e w4 ⟨rfl, rfl⟩))
      go_wp2_with fail
      go_ret
      rw [HV.out, print_str]
      exact ⟨rfl, hp3.below⟩

    · have hz : (((dg (d / 10)).toNat : Int) == 48) = false := by rw [dg_val]; simp; omega
      have HD0 : Hid (str (two d) = str (dayN d)) := by
        unfold Hid dayN
        rw [if_neg hd]
      go_wp2_with (first | (go_at_call 46; refine (digits2 _ (by omega) (by omega) _).mono ?_; rintro e w' ⟨rfl, rfl⟩))
      have HM := HM0.out
      have HD := HD0.out
      rw [HD]
      clear hz hx hx0 hs1 HD
      rw [HM]
      clear HM
      go_quiet ((go_at_call 46; exact Calls.quiet_of_same (digits2 _ (by omega) (by omega) _)))
      have HP2 := hid (HP1.out.drewN nq)
      have hP2 := HP2.out
      generalize w'.drewN nq = w2 at HP2 hP2 ⊢
      clear k0 k1 k2 k3 k4 k5 k6
      obtain ⟨k0, k1, k2, k3, k4, k5, k6⟩ := cA_load hP2.at_
      simp only at k0 k1 k2 k3 k4 k5 k6
      clear k1 k2 k3 k4 k5
      have c8 := str_size (zoneN z)
      have c9 := zone_len' z
      rw [c9] at c8
      have hp0 := hP2
      have hp1 := hP2.drew
      go_wp2_with fail
      go_region_held3 (fun w' => w'.cell? ⟨w.heap.size, 0, none⟩ = some (.int .i64 y) ∧ w'.cell? ⟨w.heap.size, 6, none⟩ = some (.int .i64 z)) (first | exact ⟨k0, k6⟩ | exact hq3 | go_keep) (first | (go_at_call 46; refine (digits4 y (by omega) (by omega) hp1.env).mono ?_; rintro e w3 ⟨rfl, hb3⟩; have hp3 := hp1.later hb3; have hq3 := hp3.ends) | (go_at_call 47; refine (zoned_any z g7 g8 _).mono ?_; rintro e w4 ⟨rfl, rfl⟩))
      go_wp2_with fail
      go_ret
      rw [HV.out, print_str]
      exact ⟨rfl, hp3.below⟩

  · have C := right_any t (w.alloc (.cells (dtL t).toArray 29))
    rw [decide_eq_false ht] at C
    have HC := hid C
    have HV : Hid (printV t = []) := by unfold Hid printV; rw [if_neg ht]
    clear C ht
    obtain ⟨y, mo, d, h, mi, s, z⟩ := t
    unfold dtV
    unfold dtL at k0 k1 k2 k3 k4 k5 k6 ⊢
    simp only at k0 k1 k2 k3 k4 k5 k6
    go_enter Tryd.func23, Tryd.ntmps23
    go_wp2_with fail
    refine HC.out.mono ?_
    rintro e w1 ⟨rfl, hb1⟩
    have HP1 := hid (HP.out.later hb1)
    clear k0 k1 k2 k3 k4 k5 k6 hb1
    go_wp2_with fail
    go_ret
    rw [HV.out]
    exact ⟨rfl, HP1.out.below⟩
end Go.Proofs.YtnjdgbbdjkhpoaaDoor
