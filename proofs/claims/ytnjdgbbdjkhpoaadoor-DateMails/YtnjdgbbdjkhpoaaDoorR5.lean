/- What this text holds: the document's At. -/
import Derived.Test.YtnjdgbbdjkhpoaaDoorR4
namespace Go.Proofs.YtnjdgbbdjkhpoaaDoor
open Go.RowKit
set_option linter.unusedVariables false
set_option linter.unusedSimpArgs false

set_option maxRecDepth 100000 in
theorem results20_run {w : World} {A : Nat} {t : Dt} (tmps : Array Value) (h4 : tmps[4]? = some (.pointer (some ⟨A, 0, none⟩)))
    (hA : w.heap[A]? = some (.cells (dtL t).toArray 29 (0, 0))) : (results Tryd.f20 tmps).run Tryd.prog w = .ok (dtV t) w := by
  obtain ⟨a0, a1, a2, a3, a4, a5, a6⟩ := cA_load hA
  simp [results, Tryd.results20, go_sem, h4, a0, a1, a2, a3, a4, a5, a6, dtV, dtL]
theorem tmod_range (n : Int) : -86400 < n.tmod 86400 ∧ n.tmod 86400 < 86400 := by
  refine ⟨?_, Int.tmod_lt_of_pos n (by omega)⟩
  rcases Int.lt_or_le n 0 with hn | hn
  · have := Int.tmod_lt_of_pos (-n) (b := 86400) (by omega)
    rw [Int.neg_tmod] at this
    omega
  · have := Int.tmod_nonneg 86400 hn
    omega
theorem rem_up (n : Int) : (n.tmod 86400 + 86400).tmod 86400 = n % 86400 := by
  have h1 := tmod_range n
  have h2 := Int.mul_tdiv_add_tmod n 86400
  rw [tmod_pos _ _ (by omega)]
  omega
theorem quo_up (n : Int) : (n - n % 86400).tdiv 86400 = n / 86400 := by
  have h : n - n % 86400 = n / 86400 * 86400 := by omega
  rw [h, Int.mul_tdiv_cancel _ (by omega)]

set_option maxRecDepth 100000 in
set_option maxHeartbeats 2000000 in
theorem rat_yes (u z : Int) (t : Dt) (ht : AtP u z t) (hu0 : -1000000000000 ≤ u) (hu1 : u ≤ 1000000000000) (hz0 : -1439 ≤ z) (hz1 : z ≤ 1439) (w : World) :
    Calls Tryd.prog 20 #[.int .i64 u, .int .i64 z] w fun e w' => e = .returned (dtV t) ∧ Below w.heap.size w w' := by
  have hA := boxed0 Dt.zero w
  have HB : Hid (Below w.heap.size w (w.alloc (.cells (dtL Dt.zero).toArray 29))) := (Below.refl _ _).alloc (Nat.le_refl _) _
  have d1 : (decide (-1439 ≤ z) && decide (z ≤ 1439)) = true := by simp; omega
  have d2 : (decide (-1000000000000 ≤ u) && decide (u ≤ 1000000000000)) = true := by simp; omega
  have hy : (t.y == 0) = false := by have := ht.there.1; simp; omega
  have CC := rcivil_yes _ _ _ ht.there
  rw [ht.no] at CC
  have HC := hid CC
  have HX : Hid (t = ⟨t.y, t.mo, t.d, (u + z * 60) % 86400 / 3600, (u + z * 60) % 86400 / 60 % 60, (u + z * 60) % 86400 % 60, z⟩) := by
    have e : (u + z * 60) % 86400 / 60 % 60 = (u + z * 60) % 86400 % 3600 / 60 := by omega
    unfold Hid
    rw [e, ← ht.h, ← ht.mi, ← ht.s, ← ht.z]
  rw [show z * 60 = 60 * z by omega] at HX HC
  clear CC ht
  have r1 := rem_up (u + 60 * z)
  have r2 := quo_up (u + 60 * z)
  have r3 := tmod_range (u + 60 * z)
  have b1 : 0 ≤ (u + 60 * z) % 86400 := Int.emod_nonneg _ (by omega)
  have b2 : (u + 60 * z) % 86400 < 86400 := Int.emod_lt_of_pos _ (by omega)
  have x1 : -1000000100000 ≤ u + 60 * z := by omega
  have x2 : u + 60 * z ≤ 1000000100000 := by omega
  generalize hX : u + 60 * z = X at r1 r2 r3 b1 b2 HX HC x1 x2
  generalize hY : X.tmod 86400 = Y at r1 r3
  generalize hS : X % 86400 = S at r1 r2 b1 b2 HX
  clear hS
  obtain ⟨y1, y2⟩ := r3
  have e1 := tdiv_pos S 3600 b1
  have e2 := tdiv_pos S 60 b1
  have e4 := tmod_pos (S / 60) 60 (by omega)
  have e3 := tmod_pos S 60 b1
  go_enter Tryd.func20, Tryd.ntmps20
  go_wp2_with (first | (go_at_call 39; refine (in_any _ _ _ _).mono ?_; rintro e w' ⟨rfl, rfl⟩; first | rw [d1] | rw [d2]))
  have CC := HC.out (w.alloc (.cells (dtL Dt.zero).toArray 29))
  refine CC.mono ?_
  clear CC
  rintro e w2 ⟨rfl, hb2⟩
  have hA2 := (hb2.block w.heap.size (by simp)).trans hA
  have HB2 := hid (HB.out.trans (hb2.mono (by simp)))
  clear hA HB hb2 hX hY r1 r2
  obtain ⟨a0, a1, a2, a3, a4, a5, a6⟩ := cA_load hA2
  have fA : ∀ k, w2.frozen? ⟨w.heap.size, k, none⟩ = false := fun k => by simp [World.frozen?, hA2]
  have HA2 := hid hA2
  clear hA2
  go_wp2_with fail
  obtain ⟨x1, x2, x3⟩ := putD_is w2 w.heap.size Dt.zero ⟨t.y, t.mo, t.d, S / 3600, S / 60 % 60, S % 60, z⟩ HA2.out
  refine bodyPost_ret (w := putD w2 w.heap.size ⟨t.y, t.mo, t.d, S / 3600, S / 60 % 60, S % 60, z⟩) (results20_run (t := t) _ rfl ?_) rfl ?_
  · rw [HX.out]; exact x1
  · exact ⟨rfl, below_kept HB2.out x3 (by simp) HB2.out.size⟩

set_option maxRecDepth 100000 in
set_option maxHeartbeats 2000000 in
theorem rat_far (u z : Int) (hno : (u + z * 60) / 86400 < -719162 ∨ 2932896 < (u + z * 60) / 86400) (hu0 : -1000000000000 ≤ u) (hu1 : u ≤ 1000000000000) (hz0 : -1439 ≤ z) (hz1 : z ≤ 1439) (w : World) :
    Calls Tryd.prog 20 #[.int .i64 u, .int .i64 z] w fun e w' => e = .returned (dtV Dt.zero) ∧ Below w.heap.size w w' := by
  have hA := boxed0 Dt.zero w
  have HB : Hid (Below w.heap.size w (w.alloc (.cells (dtL Dt.zero).toArray 29))) := (Below.refl _ _).alloc (Nat.le_refl _) _
  have d1 : (decide (-1439 ≤ z) && decide (z ≤ 1439)) = true := by simp; omega
  have d2 : (decide (-1000000000000 ≤ u) && decide (u ≤ 1000000000000)) = true := by simp; omega
  have CC := rcivil_no _ hno
  have HC := hid CC
  rw [show z * 60 = 60 * z by omega] at HC
  clear CC hno
  have r1 := rem_up (u + 60 * z)
  have r2 := quo_up (u + 60 * z)
  have r3 := tmod_range (u + 60 * z)
  have b1 : 0 ≤ (u + 60 * z) % 86400 := Int.emod_nonneg _ (by omega)
  have b2 : (u + 60 * z) % 86400 < 86400 := Int.emod_lt_of_pos _ (by omega)
  have x1 : -1000000100000 ≤ u + 60 * z := by omega
  have x2 : u + 60 * z ≤ 1000000100000 := by omega
  generalize hX : u + 60 * z = X at r1 r2 r3 b1 b2 HC x1 x2
  generalize hY : X.tmod 86400 = Y at r1 r3
  generalize hS : X % 86400 = S at r1 r2 b1 b2
  clear hS
  obtain ⟨y1, y2⟩ := r3
  go_enter Tryd.func20, Tryd.ntmps20
  go_wp2_with (first | (go_at_call 39; refine (in_any _ _ _ _).mono ?_; rintro e w' ⟨rfl, rfl⟩; first | rw [d1] | rw [d2]))
  have CC := HC.out (w.alloc (.cells (dtL Dt.zero).toArray 29))
  refine CC.mono ?_
  clear CC
  rintro e w2 ⟨rfl, hb2⟩
  have hA2 := (hb2.block w.heap.size (by simp)).trans hA
  have HB2 := hid (HB.out.trans (hb2.mono (by simp)))
  clear hA HB hb2 hX hY r1 r2
  obtain ⟨a0, a1, a2, a3, a4, a5, a6⟩ := cA_load hA2
  have fA : ∀ k, w2.frozen? ⟨w.heap.size, k, none⟩ = false := fun k => by simp [World.frozen?, hA2]
  have HA2 := hid hA2
  clear hA2
  go_wp2_with fail
  obtain ⟨x1, x2, x3⟩ := putD_is w2 w.heap.size Dt.zero Dt.zero HA2.out
  exact bodyPost_ret (w := putD w2 w.heap.size Dt.zero) (results20_run (t := Dt.zero) _ rfl x1) rfl ⟨rfl, below_kept HB2.out x3 (by simp) HB2.out.size⟩

set_option maxRecDepth 100000 in
set_option maxHeartbeats 2000000 in
theorem rat_off (u z : Int) (hz : z < -1439 ∨ 1439 < z) (w : World) : Calls Tryd.prog 20 #[.int .i64 u, .int .i64 z] w fun e w' => e = .returned (dtV Dt.zero) ∧ Below w.heap.size w w' := by
  have hA := boxed0 Dt.zero w
  have HB : Hid (Below w.heap.size w (w.alloc (.cells (dtL Dt.zero).toArray 29))) := (Below.refl _ _).alloc (Nat.le_refl _) _
  have d1 : (decide (-1439 ≤ z) && decide (z ≤ 1439)) = false := by simp; omega
  have HA := hid hA
  clear hA hz
  go_enter Tryd.func20, Tryd.ntmps20
  go_wp2_with (first | (go_at_call 39; refine (in_any _ _ _ _).mono ?_; rintro e w' ⟨rfl, rfl⟩; rw [d1]))
  first
  | exact bodyPost_ret (results20_run (t := Dt.zero) _ rfl HA.out) rfl ⟨rfl, HB.out⟩
  | (obtain ⟨x1, x2, x3⟩ := putD_is _ w.heap.size Dt.zero Dt.zero HA.out
     exact bodyPost_ret (w := putD (w.alloc (.cells (dtL Dt.zero).toArray 29)) w.heap.size Dt.zero) (results20_run (t := Dt.zero) _ rfl x1) rfl ⟨rfl, below_kept HB.out x3 (by simp) HB.out.size⟩)
set_option maxRecDepth 100000 in
set_option maxHeartbeats 2000000 in
theorem rat_out (u z : Int) (hu : u < -1000000000000 ∨ 1000000000000 < u) (hz0 : -1439 ≤ z) (hz1 : z ≤ 1439) (w : World) : Calls Tryd.prog 20 #[.int .i64 u, .int .i64 z] w fun e w' => e = .returned (dtV Dt.zero) ∧ Below w.heap.size w w' := by
  have hA := boxed0 Dt.zero w
  have HB : Hid (Below w.heap.size w (w.alloc (.cells (dtL Dt.zero).toArray 29))) := (Below.refl _ _).alloc (Nat.le_refl _) _
  have d1 : (decide (-1439 ≤ z) && decide (z ≤ 1439)) = true := by simp; omega
  have d2 : (decide (-1000000000000 ≤ u) && decide (u ≤ 1000000000000)) = false := by simp; omega
  have HA := hid hA
  clear hA hu
  go_enter Tryd.func20, Tryd.ntmps20
  go_wp2_with (first | (go_at_call 39; refine (in_any _ _ _ _).mono ?_; rintro e w' ⟨rfl, rfl⟩; first | rw [d1] | rw [d2]))
  first
  | exact bodyPost_ret (results20_run (t := Dt.zero) _ rfl HA.out) rfl ⟨rfl, HB.out⟩
  | (obtain ⟨x1, x2, x3⟩ := putD_is _ w.heap.size Dt.zero Dt.zero HA.out
     exact bodyPost_ret (w := putD (w.alloc (.cells (dtL Dt.zero).toArray 29)) w.heap.size Dt.zero) (results20_run (t := Dt.zero) _ rfl x1) rfl ⟨rfl, below_kept HB.out x3 (by simp) HB.out.size⟩)
/-- There is a date, or none. -/
theorem at_or (u z : Int) (hz0 : -1439 ≤ z) (hz1 : z ≤ 1439) : (∃ t, AtP u z t ∧ RightP t) ∨ ((u + z * 60) / 86400 < -719162 ∨ 2932896 < (u + z * 60) / 86400) := by
  by_cases h : -719162 ≤ (u + z * 60) / 86400 ∧ (u + z * 60) / 86400 ≤ 2932896
  · obtain ⟨y, m, d, hth, hno⟩ := day_of _ h.1 h.2
    refine .inl ⟨⟨y, m, d, (u + z * 60) % 86400 / 3600, (u + z * 60) % 86400 % 3600 / 60, (u + z * 60) % 86400 % 60, z⟩, ⟨hth, hno, rfl, rfl, rfl, rfl⟩, hth, ?_⟩
    simp only
    omega
  · exact .inr (by omega)
end Go.Proofs.YtnjdgbbdjkhpoaaDoor
