/- What this text holds: the program's At. -/
import Derived.Test.YtnjdgbbdjkhpoaaDoorV3
namespace Go.Proofs.YtnjdgbbdjkhpoaaDoor
open Go.RowKit
set_option linter.unusedVariables false
set_option linter.unusedSimpArgs false

set_option maxRecDepth 100000 in
theorem results19_run {w : World} {A : Nat} {t : Dt} (tmps : Array Value) (h4 : tmps[4]? = some (.pointer (some ⟨A, 0, none⟩)))
    (hA : w.heap[A]? = some (.cells (dtL t).toArray 29 (0, 0))) : (results Tryd.f19 tmps).run Tryd.prog w = .ok (dtV t) w := by
  obtain ⟨a0, a1, a2, a3, a4, a5, a6⟩ := cA_load hA
  simp [results, Tryd.results19, go_sem, h4, a0, a1, a2, a3, a4, a5, a6, dtV, dtL]

theorem at_parts (u z : Int) : u / 86400 + (u % 86400 + z * 60) / 86400 = (u + z * 60) / 86400 ∧ (u % 86400 + z * 60) % 86400 = (u + z * 60) % 86400 := by omega
/-- The date of a number of seconds, if there is one. -/
structure AtP (u z : Int) (t : Dt) : Prop where
  there : There t.y t.mo t.d
  no : dayNo t.y t.mo t.d = (u + z * 60) / 86400
  h : t.h = (u + z * 60) % 86400 / 3600
  mi : t.mi = (u + z * 60) % 86400 % 3600 / 60
  s : t.s = (u + z * 60) % 86400 % 60
  z : t.z = z

set_option maxRecDepth 100000 in
set_option maxHeartbeats 2000000 in
theorem at_yes (u z : Int) (t : Dt) (ht : AtP u z t) (hu0 : -9223372036854775808 ≤ u) (hu1 : u ≤ 9223372036854775807) (hz0 : -1439 ≤ z) (hz1 : z ≤ 1439) (w : World) :
    Calls Tryd.prog 19 #[.int .i64 u, .int .i64 z] w fun e w' => e = .returned (dtV t) ∧ Below w.heap.size w w' := by
  have hA := boxed0 Dt.zero w
  have HB : Hid (Below w.heap.size w (w.alloc (.cells (dtL Dt.zero).toArray 29))) := (Below.refl _ _).alloc (Nat.le_refl _) _
  have d1 : (decide (-1439 ≤ z) && decide (z ≤ 1439)) = true := by simp; omega
  obtain ⟨p1, p2⟩ := at_parts u z
  have hdr := day_range ht.there
  have HT := hid ht
  have hy : (t.y == 0) = false := by have := ht.there.1; simp; omega
  have CC := civil_yes _ _ _ ht.there
  rw [ht.no] at CC
  rw [ht.no] at hdr
  have b3 : 0 ≤ u % 86400 := Int.emod_nonneg _ (by omega)
  have b4 : u % 86400 < 86400 := Int.emod_lt_of_pos _ (by omega)
  have b1 : 0 ≤ (u + z * 60) % 86400 := Int.emod_nonneg _ (by omega)
  have b2 : (u + z * 60) % 86400 < 86400 := Int.emod_lt_of_pos _ (by omega)
  have HC := hid CC
  have HP1 := hid p1
  obtain ⟨q1, q2⟩ := hdr
  have HX : Hid (t = ⟨t.y, t.mo, t.d, (u + z * 60) % 86400 / 3600, (u + z * 60) % 86400 % 3600 / 60, (u + z * 60) % 86400 % 60, z⟩) := by
    unfold Hid
    rw [← ht.h, ← ht.mi, ← ht.s, ← ht.z]
  have CP := part_any (u % 86400 + z * 60) (by omega) (by omega)
  rw [p2] at CP
  have HCP := hid CP
  clear CC CP p1 p2 ht HT
  generalize (u + z * 60) % 86400 = S at b1 b2 HX HCP
  have e1 := tdiv_pos S 3600 b1
  have e2 := tmod_pos S 3600 b1
  have e3 := tmod_pos S 60 b1
  have e4 := tdiv_pos (S % 3600) 60 (Int.emod_nonneg _ (by omega))
  go_enter Tryd.func19, Tryd.ntmps19
  go_wp2_with (first | (go_at_call 32; refine (within_any _ _ _ _).mono ?_; rintro e w' ⟨rfl, rfl⟩; rw [d1]))
  refine (part_any u hu0 hu1 _).mono ?_
  rintro e w1 ⟨rfl, k1, rfl⟩
  go_wp2_with fail
  refine (HCP.out _).mono ?_
  rintro e w1 ⟨rfl, k2, rfl⟩
  go_wp2_with fail
  have CC := HC.out ((w.alloc (.cells (dtL Dt.zero).toArray 29)).drewN (k1 + k2))
  rw [← HP1.out] at CC
  refine CC.mono ?_
  clear CC
  rintro e w2 ⟨rfl, rfl⟩
  have hA2 : ((w.alloc (.cells (dtL Dt.zero).toArray 29)).drewN (k1 + k2)).heap[w.heap.size]? = some (.cells (dtL Dt.zero).toArray 29 (0, 0)) := hA
  have HB2 := hid (below_drewN HB.out (k1 + k2))
  clear hA HB
  generalize (w.alloc (.cells (dtL Dt.zero).toArray 29)).drewN (k1 + k2) = w2 at hA2 HB2 ⊢
  obtain ⟨a0, a1, a2, a3, a4, a5, a6⟩ := cA_load hA2
  have fA : ∀ k, w2.frozen? ⟨w.heap.size, k, none⟩ = false := fun k => by simp [World.frozen?, hA2]
  have HA2 := hid hA2
  clear hA2
  go_wp2_with fail
  obtain ⟨x1, x2, x3⟩ := putD_is w2 w.heap.size Dt.zero ⟨t.y, t.mo, t.d, S / 3600, S % 3600 / 60, S % 60, z⟩ HA2.out
  refine bodyPost_ret (w := putD w2 w.heap.size ⟨t.y, t.mo, t.d, S / 3600, S % 3600 / 60, S % 60, z⟩) (results19_run (t := t) _ rfl ?_) rfl ?_
  · rw [HX.out]; exact x1
  · exact ⟨rfl, below_kept HB2.out x3 (by simp) HB2.out.size⟩

set_option maxRecDepth 100000 in
set_option maxHeartbeats 2000000 in
theorem at_far (u z : Int) (hno : (u + z * 60) / 86400 < -719162 ∨ 2932896 < (u + z * 60) / 86400) (hu0 : -9223372036854775808 ≤ u) (hu1 : u ≤ 9223372036854775807) (hz0 : -1439 ≤ z) (hz1 : z ≤ 1439) (w : World) :
    Calls Tryd.prog 19 #[.int .i64 u, .int .i64 z] w fun e w' => e = .returned (dtV Dt.zero) ∧ Below w.heap.size w w' := by
  have hA := boxed0 Dt.zero w
  have HB : Hid (Below w.heap.size w (w.alloc (.cells (dtL Dt.zero).toArray 29))) := (Below.refl _ _).alloc (Nat.le_refl _) _
  have d1 : (decide (-1439 ≤ z) && decide (z ≤ 1439)) = true := by simp; omega
  obtain ⟨p1, p2⟩ := at_parts u z
  have CC := civil_no _ hno
  have b3 : 0 ≤ u % 86400 := Int.emod_nonneg _ (by omega)
  have b4 : u % 86400 < 86400 := Int.emod_lt_of_pos _ (by omega)
  have HC := hid CC
  have HP1 := hid p1
  have HP2 := hid p2
  have w1 : wrap64 (u / 86400 + (u % 86400 + z * 60) / 86400) = u / 86400 + (u % 86400 + z * 60) / 86400 := by unfold wrap64; omega
  clear CC p1 p2 hno
  go_enter Tryd.func19, Tryd.ntmps19
  go_wp2_with (first | (go_at_call 32; refine (within_any _ _ _ _).mono ?_; rintro e w' ⟨rfl, rfl⟩; rw [d1]))
  refine (part_any u hu0 hu1 _).mono ?_
  rintro e w1 ⟨rfl, k1, rfl⟩
  go_wp2_with fail
  refine (part_any (u % 86400 + z * 60) (by omega) (by omega) _).mono ?_
  rintro e w1 ⟨rfl, k2, rfl⟩
  go_wp2_with fail
  have CC := HC.out ((w.alloc (.cells (dtL Dt.zero).toArray 29)).drewN (k1 + k2))
  rw [← HP1.out] at CC
  refine CC.mono ?_
  clear CC
  rintro e w2 ⟨rfl, rfl⟩
  have hA2 : ((w.alloc (.cells (dtL Dt.zero).toArray 29)).drewN (k1 + k2)).heap[w.heap.size]? = some (.cells (dtL Dt.zero).toArray 29 (0, 0)) := hA
  have HB2 := hid (below_drewN HB.out (k1 + k2))
  clear hA HB
  generalize (w.alloc (.cells (dtL Dt.zero).toArray 29)).drewN (k1 + k2) = w2 at hA2 HB2 ⊢
  obtain ⟨a0, a1, a2, a3, a4, a5, a6⟩ := cA_load hA2
  have fA : ∀ k, w2.frozen? ⟨w.heap.size, k, none⟩ = false := fun k => by simp [World.frozen?, hA2]
  have HA2 := hid hA2
  clear hA2
  go_wp2_with fail
  obtain ⟨x1, x2, x3⟩ := putD_is w2 w.heap.size Dt.zero Dt.zero HA2.out
  exact bodyPost_ret (w := putD w2 w.heap.size Dt.zero) (results19_run (t := Dt.zero) _ rfl x1) rfl ⟨rfl, below_kept HB2.out x3 (by simp) HB2.out.size⟩

set_option maxRecDepth 100000 in
set_option maxHeartbeats 2000000 in
theorem at_off (u z : Int) (hz : z < -1439 ∨ 1439 < z) (w : World) : Calls Tryd.prog 19 #[.int .i64 u, .int .i64 z] w fun e w' => e = .returned (dtV Dt.zero) ∧ Below w.heap.size w w' := by
  have hA := boxed0 Dt.zero w
  have HB : Hid (Below w.heap.size w (w.alloc (.cells (dtL Dt.zero).toArray 29))) := (Below.refl _ _).alloc (Nat.le_refl _) _
  have d1 : (decide (-1439 ≤ z) && decide (z ≤ 1439)) = false := by simp; omega
  have HA := hid hA
  clear hA hz
  go_enter Tryd.func19, Tryd.ntmps19
  go_wp2_with (first | (go_at_call 32; refine (within_any _ _ _ _).mono ?_; rintro e w' ⟨rfl, rfl⟩; rw [d1]))
  first
  | exact bodyPost_ret (results19_run (t := Dt.zero) _ rfl HA.out) rfl ⟨rfl, HB.out⟩
  | (obtain ⟨x1, x2, x3⟩ := putD_is _ w.heap.size Dt.zero Dt.zero HA.out
     exact bodyPost_ret (w := putD (w.alloc (.cells (dtL Dt.zero).toArray 29)) w.heap.size Dt.zero) (results19_run (t := Dt.zero) _ rfl x1) rfl ⟨rfl, below_kept HB.out x3 (by simp) HB.out.size⟩)
end Go.Proofs.YtnjdgbbdjkhpoaaDoor
