/- What this text holds: the document's clock, and its Day. -/
import Derived.Test.YtnjdgbbdjkhpoaaDoorM3
namespace Go.Proofs.YtnjdgbbdjkhpoaaDoor
open Go.RowKit
set_option linter.unusedVariables false
set_option linter.unusedSimpArgs false

/-- Two digits, :, two digits, :, two digits. -/
def clkT (t : Bs) : Int × Int × Int := if t.length = 8 ∧ t[2]? = some 58 ∧ t[5]? = some 58 then (numR (t.take 2), numR ((t.drop 3).take 2), numR ((t.drop 6).take 2)) else (-1, 0, 0)
def clkS (s : Bs) : Bs := if s.length = 5 then s ++ [58, 48, 48] else s
def clkR (s : Bs) : Int × Int × Int := clkT (clkS s)
/-- A day as the document reads it: year, month, day. -/
def dayT (t : Bs) : Option (Int × Int × Int) := if t.length = 11 ∧ t[2]? = some 45 ∧ t[6]? = some 45 then some (numR ((t.drop 7).take 4), monthR ((t.drop 3).take 3), numR (t.take 2)) else none
def dayS (s : Bs) : Bs := if s.length = 10 then 48 :: s else s
def numS (a : ByteArray) : Int := numR a.data.toList
theorem numS_str (l : Bs) : numS (str l) = numR l := by simp [numS, str]
theorem rnumS_any (a : ByteArray) (h : a.size ≤ 1000000) (w : World) : Calls Tryd.prog 44 #[.string a] w fun e w' => e = .returned (.int .i64 (numS a)) ∧ w' = w := by
  have := rnumber_any a.data.toList (by simpa using h) w
  rw [str_of] at this
  exact this
theorem get_some (t : Bs) (k : Nat) (h : k < (str t).size) : t[k]? = some ((str t)[k]'h) := by
  rw [List.getElem?_eq_getElem (by rw [← str_size]; exact h)]
  rfl
theorem clkT_is {t : Bs} {p q : UInt8} {a b c : Int} (h : t.length = 8) (h2 : t[2]? = some p) (h5 : t[5]? = some q) (ha : numR (t.take 2) = a) (hb : numR ((t.drop 3).take 2) = b) (hc : numR ((t.drop 6).take 2) = c) : clkT t = if p = 58 ∧ q = 58 then (a, b, c) else (-1, 0, 0) := by
  unfold clkT
  rw [h2, h5, ha, hb, hc]
  simp only [h, Option.some.injEq, true_and]
theorem clkT_no {t : Bs} (h : t.length ≠ 8) : clkT t = (-1, 0, 0) := by unfold clkT; rw [if_neg]; intro e; exact h e.1
theorem not_at (c : UInt8) (k : Nat) (hk : k < 256) (h : ¬ c = UInt8.ofNat k) : ((c.toNat : Int) == (k : Int)) = false ∧ ((c.toNat : Int) != (k : Int)) = true := by
  have := u8_int c k hk
  rw [decide_eq_false h] at this
  exact ⟨this, by simp only [bne, this]; rfl⟩

set_option maxRecDepth 100000 in
set_option maxHeartbeats 2000000 in
theorem rclock_any (s : Bs) (hs : s.length ≤ 1000000) (w : World) : Calls Tryd.prog 53 #[.string (str s)] w fun e w' => e = .returned (.tuple #[.int .i64 (clkR s).1, .int .i64 (clkR s).2.1, .int .i64 (clkR s).2.2]) ∧ Below w.heap.size w w' := by
  have hss := str_size s
  unfold clkR
  by_cases h5 : s.length = 5
  · have HS : clkS s = s ++ [58, 48, 48] := by unfold clkS; rw [if_pos h5]
    rw [HS]
    have hcat : str s ++ (⟨#[58, 48, 48]⟩ : ByteArray) = str (s ++ [58, 48, 48]) := by rw [← app_str]; rfl
    have hsz : (str (s ++ [58, 48, 48])).size = 8 := by rw [str_size]; simp; omega
    rw [h5] at hss
    generalize s ++ [58, 48, 48] = t at *
    clear HS h5
    have hx2 : 2 < (str t).size := by omega
    have hx5 : 5 < (str t).size := by omega
    have HTL : Hid (t.length = 8) := by have := str_size t; unfold Hid; omega
    obtain ⟨p, g2, P2⟩ : ∃ p : UInt8, (str t)[2]'hx2 = p ∧ Hid (t[2]? = some p) := ⟨_, rfl, hid (get_some t 2 hx2)⟩
    obtain ⟨q, g5, P5⟩ : ∃ q : UInt8, (str t)[5]'hx5 = q ∧ Hid (t[5]? = some q) := ⟨_, rfl, hid (get_some t 5 hx5)⟩
    obtain ⟨a0, m0, z0, E0⟩ : ∃ a : ByteArray, (str t).extract 0 2 = a ∧ a.size ≤ 1000000 ∧ Hid (numR (t.take 2) = numS a) := ⟨_, take_str t 2, by rw [str_size]; simp; omega, hid (numS_str _).symm⟩
    obtain ⟨a3, m3, z3, E3⟩ : ∃ a : ByteArray, (str t).extract 3 5 = a ∧ a.size ≤ 1000000 ∧ Hid (numR ((t.drop 3).take 2) = numS a) := ⟨_, mid_str t 3 5, by rw [str_size]; simp; omega, hid (numS_str _).symm⟩
    obtain ⟨a6, m6, z6, E6⟩ : ∃ a : ByteArray, (str t).extract 6 8 = a ∧ a.size ≤ 1000000 ∧ Hid (numR ((t.drop 6).take 2) = numS a) := ⟨_, mid_str t 6 8, by rw [str_size]; simp; omega, hid (numS_str _).symm⟩
    have HZ := hid (clkT_is HTL.out P2.out P5.out E0.out E3.out E6.out)
    by_cases hp : p = 58
    · have e2 : ((p.toNat : Int) == 58) = true := by rw [hp]; rfl
      have f2 : ((p.toNat : Int) != 58) = false := by rw [hp]; rfl
      by_cases hq : q = 58
      · have e5 : ((q.toNat : Int) == 58) = true := by rw [hq]; rfl
        have f5 : ((q.toNat : Int) != 58) = false := by rw [hq]; rfl
        have HV : Hid (clkT t = (numS a0, numS a3, numS a6)) := by unfold Hid; rw [HZ.out, if_pos ⟨hp, hq⟩]
        clear HTL P2 P5 E0 E3 E6 HZ hp hq
        go_enter Tryd.func53, Tryd.ntmps53
        go_wp2_with fail
        go_region_held3 (fun w' => True) (first | trivial | go_keep) (first | (go_at_call 44; refine (rnumS_any _ (by assumption) _).mono ?_; rintro e wk ⟨rfl, rfl⟩))
        go_wp2_with fail
        go_ret3
        rw [HV.out]
        exact ⟨rfl, (Below.refl _ _).drew⟩
      · obtain ⟨e5, f5⟩ : ((q.toNat : Int) == 58) = false ∧ ((q.toNat : Int) != 58) = true := not_at q 58 (by omega) hq
        have HV : Hid (clkT t = (-1, 0, 0)) := by unfold Hid; rw [HZ.out, if_neg (fun h => hq h.2)]
        clear HTL P2 P5 E0 E3 E6 HZ hp hq
        go_enter Tryd.func53, Tryd.ntmps53
        go_wp2_with fail
        go_ret3
        rw [HV.out]
        exact ⟨rfl, Below.refl _ _⟩
    · obtain ⟨e2, f2⟩ : ((p.toNat : Int) == 58) = false ∧ ((p.toNat : Int) != 58) = true := not_at p 58 (by omega) hp
      have HV : Hid (clkT t = (-1, 0, 0)) := by unfold Hid; rw [HZ.out, if_neg (fun h => hp h.1)]
      clear HTL P2 P5 E0 E3 E6 HZ hp
      go_enter Tryd.func53, Tryd.ntmps53
      go_wp2_with fail
      go_ret3
      rw [HV.out]
      exact ⟨rfl, Below.refl _ _⟩
  · have HS : clkS s = s := by unfold clkS; rw [if_neg h5]
    rw [HS]
    clear HS
    by_cases h8 : s.length = 8
    · rw [h8] at hss
      clear h5 h8
      have hsz := hss
      generalize s = t at *
      clear hss
      have hx2 : 2 < (str t).size := by omega
      have hx5 : 5 < (str t).size := by omega
      have HTL : Hid (t.length = 8) := by have := str_size t; unfold Hid; omega
      obtain ⟨p, g2, P2⟩ : ∃ p : UInt8, (str t)[2]'hx2 = p ∧ Hid (t[2]? = some p) := ⟨_, rfl, hid (get_some t 2 hx2)⟩
      obtain ⟨q, g5, P5⟩ : ∃ q : UInt8, (str t)[5]'hx5 = q ∧ Hid (t[5]? = some q) := ⟨_, rfl, hid (get_some t 5 hx5)⟩
      obtain ⟨a0, m0, z0, E0⟩ : ∃ a : ByteArray, (str t).extract 0 2 = a ∧ a.size ≤ 1000000 ∧ Hid (numR (t.take 2) = numS a) := ⟨_, take_str t 2, by rw [str_size]; simp; omega, hid (numS_str _).symm⟩
      obtain ⟨a3, m3, z3, E3⟩ : ∃ a : ByteArray, (str t).extract 3 5 = a ∧ a.size ≤ 1000000 ∧ Hid (numR ((t.drop 3).take 2) = numS a) := ⟨_, mid_str t 3 5, by rw [str_size]; simp; omega, hid (numS_str _).symm⟩
      obtain ⟨a6, m6, z6, E6⟩ : ∃ a : ByteArray, (str t).extract 6 8 = a ∧ a.size ≤ 1000000 ∧ Hid (numR ((t.drop 6).take 2) = numS a) := ⟨_, mid_str t 6 8, by rw [str_size]; simp; omega, hid (numS_str _).symm⟩
      have HZ := hid (clkT_is HTL.out P2.out P5.out E0.out E3.out E6.out)
      by_cases hp : p = 58
      · have e2 : ((p.toNat : Int) == 58) = true := by rw [hp]; rfl
        have f2 : ((p.toNat : Int) != 58) = false := by rw [hp]; rfl
        by_cases hq : q = 58
        · have e5 : ((q.toNat : Int) == 58) = true := by rw [hq]; rfl
          have f5 : ((q.toNat : Int) != 58) = false := by rw [hq]; rfl
          have HV : Hid (clkT t = (numS a0, numS a3, numS a6)) := by unfold Hid; rw [HZ.out, if_pos ⟨hp, hq⟩]
          clear HTL P2 P5 E0 E3 E6 HZ hp hq
          go_enter Tryd.func53, Tryd.ntmps53
          go_wp2_with fail
          go_region_held3 (fun w' => True) (first | trivial | go_keep) (first | (go_at_call 44; refine (rnumS_any _ (by assumption) _).mono ?_; rintro e wk ⟨rfl, rfl⟩))
          go_wp2_with fail
          go_ret3
          rw [HV.out]
          exact ⟨rfl, (Below.refl _ _).drew⟩
        · obtain ⟨e5, f5⟩ : ((q.toNat : Int) == 58) = false ∧ ((q.toNat : Int) != 58) = true := not_at q 58 (by omega) hq
          have HV : Hid (clkT t = (-1, 0, 0)) := by unfold Hid; rw [HZ.out, if_neg (fun h => hq h.2)]
          clear HTL P2 P5 E0 E3 E6 HZ hp hq
          go_enter Tryd.func53, Tryd.ntmps53
          go_wp2_with fail
          go_ret3
          rw [HV.out]
          exact ⟨rfl, Below.refl _ _⟩
      · obtain ⟨e2, f2⟩ : ((p.toNat : Int) == 58) = false ∧ ((p.toNat : Int) != 58) = true := not_at p 58 (by omega) hp
        have HV : Hid (clkT t = (-1, 0, 0)) := by unfold Hid; rw [HZ.out, if_neg (fun h => hp h.1)]
        clear HTL P2 P5 E0 E3 E6 HZ hp
        go_enter Tryd.func53, Tryd.ntmps53
        go_wp2_with fail
        go_ret3
        rw [HV.out]
        exact ⟨rfl, Below.refl _ _⟩
    · have HV := hid (clkT_no h8)
      have e5 : ((s.length : Int) == 5) = false := by rw [beq_eq_false_iff_ne]; omega
      have e8 : ((s.length : Int) == 8) = false := by rw [beq_eq_false_iff_ne]; omega
      have f8 : ((s.length : Int) != 8) = true := by simp [bne, e8]
      clear h5 h8
      go_enter Tryd.func53, Tryd.ntmps53
      go_wp2_with fail
      go_ret3
      rw [HV.out]
      exact ⟨rfl, Below.refl _ _⟩
end Go.Proofs.YtnjdgbbdjkhpoaaDoor
