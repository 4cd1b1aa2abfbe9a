/- What this text holds: the document's Day. -/
import Derived.Test.YtnjdgbbdjkhpoaaDoorM4
namespace Go.Proofs.YtnjdgbbdjkhpoaaDoor
open Go.RowKit
set_option linter.unusedVariables false
set_option linter.unusedSimpArgs false

theorem monS_any (a : ByteArray) (h : a.size ≤ 1000000) (w : World) : Calls Tryd.prog 45 #[.string a] w fun e w' => e = .returned (.int .i64 (monthR a.data.toList)) ∧ Below w.heap.size w w' := by
  have := rmonth_any a.data.toList (by simpa using h) w
  rw [str_of] at this
  exact this
def monS (a : ByteArray) : Int := monthR a.data.toList
theorem monS_str (l : Bs) : monS (str l) = monthR l := by simp [monS, str]
theorem dayT_is {t : Bs} {p q : UInt8} {a b c : Int} (h : t.length = 11) (h2 : t[2]? = some p) (h5 : t[6]? = some q) (ha : numR ((t.drop 7).take 4) = a) (hb : monthR ((t.drop 3).take 3) = b) (hc : numR (t.take 2) = c) : dayT t = if p = 45 ∧ q = 45 then some (a, b, c) else none := by
  unfold dayT
  rw [h2, h5, ha, hb, hc]
  simp only [h, Option.some.injEq, true_and]
theorem dayT_no {t : Bs} (h : t.length ≠ 11) : dayT t = none := by unfold dayT; rw [if_neg]; intro e; exact h e.1
/-- What the document's Day answers: the number, and the error. -/
def dayRV (o : Option (Int × Int × Int)) : Value := match o with
  | some (y, m, d) => if There y m d then .tuple #[.int .i64 (daysV y m d), .int .i64 0] else .tuple #[.int .i64 0, .int .i64 11]
  | none => .tuple #[.int .i64 0, .int .i64 11]

set_option maxRecDepth 100000 in
set_option maxHeartbeats 4000000 in
theorem rday_any (s : Bs) (hs : s.length ≤ 1000000) (w : World) : Calls Tryd.prog 29 #[.string (str s)] w fun e w' => e = .returned (dayRV (dayT (dayS s))) ∧ Below w.heap.size w w' := by
  have hss := str_size s
  by_cases h5 : s.length = 10
  · have HS : dayS s = 48 :: s := by unfold dayS; rw [if_pos h5]
    rw [HS]
    have hcat : (⟨#[48]⟩ : ByteArray) ++ str s = str (48 :: s) := by rw [show (48 :: s) = [48] ++ s from rfl, ← app_str]; rfl
    have hsz : (str (48 :: s)).size = 11 := by rw [str_size]; simp; omega
    rw [h5] at hss
    generalize 48 :: s = t at *
    clear HS h5
    have hx2 : 2 < (str t).size := by omega
    have hx6 : 6 < (str t).size := by omega
    have HTL : Hid (t.length = 11) := by have := str_size t; unfold Hid; omega
    obtain ⟨p, g2, P2⟩ : ∃ p : UInt8, (str t)[2]'hx2 = p ∧ Hid (t[2]? = some p) := ⟨_, rfl, hid (get_some t 2 hx2)⟩
    obtain ⟨q, g5, P5⟩ : ∃ q : UInt8, (str t)[6]'hx6 = q ∧ Hid (t[6]? = some q) := ⟨_, rfl, hid (get_some t 6 hx6)⟩
    obtain ⟨a0, m0, z0, E0⟩ : ∃ a : ByteArray, (str t).extract 0 2 = a ∧ a.size ≤ 1000000 ∧ Hid (numR (t.take 2) = numS a) := ⟨_, take_str t 2, by rw [str_size]; simp; omega, hid (numS_str _).symm⟩
    obtain ⟨a3, m3, z3, E3⟩ : ∃ a : ByteArray, (str t).extract 3 6 = a ∧ a.size ≤ 1000000 ∧ Hid (monthR ((t.drop 3).take 3) = monS a) := ⟨_, mid_str t 3 6, by rw [str_size]; simp; omega, hid (monS_str _).symm⟩
    obtain ⟨a7, m7, z7, E7⟩ : ∃ a : ByteArray, (str t).extract 7 11 = a ∧ a.size ≤ 1000000 ∧ Hid (numR ((t.drop 7).take 4) = numS a) := ⟨_, mid_str t 7 11, by rw [str_size]; simp; omega, hid (numS_str _).symm⟩
    have HZ := hid (dayT_is HTL.out P2.out P5.out E7.out E3.out E0.out)
    have HBc : Below w.heap.size w w.drew := (Below.refl _ _).drew
    by_cases hp : p = 45
    · have e2 : ((p.toNat : Int) == 45) = true := by rw [hp]; rfl
      have f2 : ((p.toNat : Int) != 45) = false := by rw [hp]; rfl
      by_cases hq : q = 45
      · have e5 : ((q.toNat : Int) == 45) = true := by rw [hq]; rfl
        have f5 : ((q.toNat : Int) != 45) = false := by rw [hq]; rfl
        have HV : Hid (dayT t = some (numS a7, monS a3, numS a0)) := by unfold Hid; rw [HZ.out, if_pos ⟨hp, hq⟩]
        clear HTL P2 P5 E0 E3 E7 HZ hp hq
        by_cases hth : There (numS a7) (monS a3) (numS a0)
        · have HU : Hid (dayRV (dayT t) = .tuple #[.int .i64 (daysV (numS a7) (monS a3) (numS a0)), .int .i64 0]) := by rw [Hid, HV.out, dayRV, if_pos hth]
          have CT : Hid (∀ w, Calls Tryd.prog 36 #[.int .i64 (numS a7), .int .i64 (monS a3), .int .i64 (numS a0)] w fun e w' => e = .returned (.bool true) ∧ Below w.heap.size w w') := fun w => by have := rthere_any (numS a7) (monS a3) (numS a0) w; rw [decide_eq_true hth] at this; exact this
          have CD := hid (rdays_any (numS a7) (monS a3) (numS a0))
          clear hth
          go_enter Tryd.func29, Tryd.ntmps29
          go_wp2_with fail
          go_region_held3 (fun w' => True) (first | trivial | go_keep) (first | (go_at_call 44; refine (rnumS_any _ (by assumption) _).mono ?_; rintro e wk ⟨rfl, rfl⟩) | (go_at_call 45; refine (monS_any _ (by assumption) _).mono ?_; rintro e wk ⟨rfl, hb⟩; have HBc := HBc.trans (hb.mono HBc.size); clear hb))
          rw [show monthR a3.data.toList = monS a3 from rfl]
          generalize numS a7 = Y at *
          generalize monS a3 = M at *
          generalize numS a0 = D at *
          go_wp2_with fail
          refine (CT.out _).mono ?_
          rintro e wt ⟨rfl, hb⟩
          have HBc := HBc.trans (hb.mono HBc.size)
          clear hb
          go_wp2_with fail
          refine (CD.out _).mono ?_
          rintro e wd ⟨rfl, hb⟩
          have HBc := HBc.trans (hb.mono HBc.size)
          clear hb
          go_wp2_with fail
          go_ret2
          rw [HU.out]
          exact ⟨rfl, HBc⟩
        · have HU : Hid (dayRV (dayT t) = .tuple #[.int .i64 0, .int .i64 11]) := by rw [Hid, HV.out, dayRV, if_neg hth]
          have CT : Hid (∀ w, Calls Tryd.prog 36 #[.int .i64 (numS a7), .int .i64 (monS a3), .int .i64 (numS a0)] w fun e w' => e = .returned (.bool false) ∧ Below w.heap.size w w') := fun w => by have := rthere_any (numS a7) (monS a3) (numS a0) w; rw [decide_eq_false hth] at this; exact this
          clear hth
          go_enter Tryd.func29, Tryd.ntmps29
          go_wp2_with fail
          go_region_held3 (fun w' => True) (first | trivial | go_keep) (first | (go_at_call 44; refine (rnumS_any _ (by assumption) _).mono ?_; rintro e wk ⟨rfl, rfl⟩) | (go_at_call 45; refine (monS_any _ (by assumption) _).mono ?_; rintro e wk ⟨rfl, hb⟩; have HBc := HBc.trans (hb.mono HBc.size); clear hb))
          rw [show monthR a3.data.toList = monS a3 from rfl]
          generalize numS a7 = Y at *
          generalize monS a3 = M at *
          generalize numS a0 = D at *
          go_wp2_with fail
          refine (CT.out _).mono ?_
          rintro e wt ⟨rfl, hb⟩
          have HBc := HBc.trans (hb.mono HBc.size)
          clear hb
          go_wp2_with fail
          go_ret2
          rw [HU.out]
          exact ⟨rfl, HBc⟩
      · obtain ⟨e5, f5⟩ : ((q.toNat : Int) == 45) = false ∧ ((q.toNat : Int) != 45) = true := not_at q 45 (by omega) hq
        have HU : Hid (dayRV (dayT t) = .tuple #[.int .i64 0, .int .i64 11]) := by rw [Hid, HZ.out, if_neg (fun h => hq h.2)]; rfl
        clear HTL P2 P5 E0 E3 E7 HZ hp hq
        go_enter Tryd.func29, Tryd.ntmps29
        go_wp2_with fail
        go_ret2
        rw [HU.out]
        exact ⟨rfl, Below.refl _ _⟩
    · obtain ⟨e2, f2⟩ : ((p.toNat : Int) == 45) = false ∧ ((p.toNat : Int) != 45) = true := not_at p 45 (by omega) hp
      have HU : Hid (dayRV (dayT t) = .tuple #[.int .i64 0, .int .i64 11]) := by rw [Hid, HZ.out, if_neg (fun h => hp h.1)]; rfl
      clear HTL P2 P5 E0 E3 E7 HZ hp
      go_enter Tryd.func29, Tryd.ntmps29
      go_wp2_with fail
      go_ret2
      rw [HU.out]
      exact ⟨rfl, Below.refl _ _⟩
  · have HS : dayS s = s := by unfold dayS; rw [if_neg h5]
    rw [HS]
    clear HS
    by_cases h8 : s.length = 11
    · rw [h8] at hss
      clear h5 h8
      have hsz := hss
      generalize s = t at *
      clear hss
      have hx2 : 2 < (str t).size := by omega
      have hx6 : 6 < (str t).size := by omega
      have HTL : Hid (t.length = 11) := by have := str_size t; unfold Hid; omega
      obtain ⟨p, g2, P2⟩ : ∃ p : UInt8, (str t)[2]'hx2 = p ∧ Hid (t[2]? = some p) := ⟨_, rfl, hid (get_some t 2 hx2)⟩
      obtain ⟨q, g5, P5⟩ : ∃ q : UInt8, (str t)[6]'hx6 = q ∧ Hid (t[6]? = some q) := ⟨_, rfl, hid (get_some t 6 hx6)⟩
      obtain ⟨a0, m0, z0, E0⟩ : ∃ a : ByteArray, (str t).extract 0 2 = a ∧ a.size ≤ 1000000 ∧ Hid (numR (t.take 2) = numS a) := ⟨_, take_str t 2, by rw [str_size]; simp; omega, hid (numS_str _).symm⟩
      obtain ⟨a3, m3, z3, E3⟩ : ∃ a : ByteArray, (str t).extract 3 6 = a ∧ a.size ≤ 1000000 ∧ Hid (monthR ((t.drop 3).take 3) = monS a) := ⟨_, mid_str t 3 6, by rw [str_size]; simp; omega, hid (monS_str _).symm⟩
      obtain ⟨a7, m7, z7, E7⟩ : ∃ a : ByteArray, (str t).extract 7 11 = a ∧ a.size ≤ 1000000 ∧ Hid (numR ((t.drop 7).take 4) = numS a) := ⟨_, mid_str t 7 11, by rw [str_size]; simp; omega, hid (numS_str _).symm⟩
      have HZ := hid (dayT_is HTL.out P2.out P5.out E7.out E3.out E0.out)
      have HBc : Below w.heap.size w w.drew := (Below.refl _ _).drew
      by_cases hp : p = 45
      · have e2 : ((p.toNat : Int) == 45) = true := by rw [hp]; rfl
        have f2 : ((p.toNat : Int) != 45) = false := by rw [hp]; rfl
        by_cases hq : q = 45
        · have e5 : ((q.toNat : Int) == 45) = true := by rw [hq]; rfl
          have f5 : ((q.toNat : Int) != 45) = false := by rw [hq]; rfl
          have HV : Hid (dayT t = some (numS a7, monS a3, numS a0)) := by unfold Hid; rw [HZ.out, if_pos ⟨hp, hq⟩]
          clear HTL P2 P5 E0 E3 E7 HZ hp hq
          by_cases hth : There (numS a7) (monS a3) (numS a0)
          · have HU : Hid (dayRV (dayT t) = .tuple #[.int .i64 (daysV (numS a7) (monS a3) (numS a0)), .int .i64 0]) := by rw [Hid, HV.out, dayRV, if_pos hth]
            have CT : Hid (∀ w, Calls Tryd.prog 36 #[.int .i64 (numS a7), .int .i64 (monS a3), .int .i64 (numS a0)] w fun e w' => e = .returned (.bool true) ∧ Below w.heap.size w w') := fun w => by have := rthere_any (numS a7) (monS a3) (numS a0) w; rw [decide_eq_true hth] at this; exact this
            have CD := hid (rdays_any (numS a7) (monS a3) (numS a0))
            clear hth
            go_enter Tryd.func29, Tryd.ntmps29
            go_wp2_with fail
            go_region_held3 (fun w' => True) (first | trivial | go_keep) (first | (go_at_call 44; refine (rnumS_any _ (by assumption) _).mono ?_; rintro e wk ⟨rfl, rfl⟩) | (go_at_call 45; refine (monS_any _ (by assumption) _).mono ?_; rintro e wk ⟨rfl, hb⟩; have HBc := HBc.trans (hb.mono HBc.size); clear hb))
            rw [show monthR a3.data.toList = monS a3 from rfl]
            generalize numS a7 = Y at *
            generalize monS a3 = M at *
            generalize numS a0 = D at *
            go_wp2_with fail
            refine (CT.out _).mono ?_
            rintro e wt ⟨rfl, hb⟩
            have HBc := HBc.trans (hb.mono HBc.size)
            clear hb
            go_wp2_with fail
            refine (CD.out _).mono ?_
            rintro e wd ⟨rfl, hb⟩
            have HBc := HBc.trans (hb.mono HBc.size)
            clear hb
            go_wp2_with fail
            go_ret2
            rw [HU.out]
            exact ⟨rfl, HBc⟩
          · have HU : Hid (dayRV (dayT t) = .tuple #[.int .i64 0, .int .i64 11]) := by rw [Hid, HV.out, dayRV, if_neg hth]
            have CT : Hid (∀ w, Calls Tryd.prog 36 #[.int .i64 (numS a7), .int .i64 (monS a3), .int .i64 (numS a0)] w fun e w' => e = .returned (.bool false) ∧ Below w.heap.size w w') := fun w => by have := rthere_any (numS a7) (monS a3) (numS a0) w; rw [decide_eq_false hth] at this; exact this
            clear hth
            go_enter Tryd.func29, Tryd.ntmps29
            go_wp2_with fail
            go_region_held3 (fun w' => True) (first | trivial | go_keep) (first | (go_at_call 44; refine (rnumS_any _ (by assumption) _).mono ?_; rintro e wk ⟨rfl, rfl⟩) | (go_at_call 45; refine (monS_any _ (by assumption) _).mono ?_; rintro e wk ⟨rfl, hb⟩; have HBc := HBc.trans (hb.mono HBc.size); clear hb))
            rw [show monthR a3.data.toList = monS a3 from rfl]
            generalize numS a7 = Y at *
            generalize monS a3 = M at *
            generalize numS a0 = D at *
            go_wp2_with fail
            refine (CT.out _).mono ?_
            rintro e wt ⟨rfl, hb⟩
            have HBc := HBc.trans (hb.mono HBc.size)
            clear hb
            go_wp2_with fail
            go_ret2
            rw [HU.out]
            exact ⟨rfl, HBc⟩
        · obtain ⟨e5, f5⟩ : ((q.toNat : Int) == 45) = false ∧ ((q.toNat : Int) != 45) = true := not_at q 45 (by omega) hq
          have HU : Hid (dayRV (dayT t) = .tuple #[.int .i64 0, .int .i64 11]) := by rw [Hid, HZ.out, if_neg (fun h => hq h.2)]; rfl
          clear HTL P2 P5 E0 E3 E7 HZ hp hq
          go_enter Tryd.func29, Tryd.ntmps29
          go_wp2_with fail
          go_ret2
          rw [HU.out]
          exact ⟨rfl, Below.refl _ _⟩
      · obtain ⟨e2, f2⟩ : ((p.toNat : Int) == 45) = false ∧ ((p.toNat : Int) != 45) = true := not_at p 45 (by omega) hp
        have HU : Hid (dayRV (dayT t) = .tuple #[.int .i64 0, .int .i64 11]) := by rw [Hid, HZ.out, if_neg (fun h => hp h.1)]; rfl
        clear HTL P2 P5 E0 E3 E7 HZ hp
        go_enter Tryd.func29, Tryd.ntmps29
        go_wp2_with fail
        go_ret2
        rw [HU.out]
        exact ⟨rfl, Below.refl _ _⟩
    · have HU : Hid (dayRV (dayT s) = .tuple #[.int .i64 0, .int .i64 11]) := by rw [Hid, dayT_no h8]; rfl
      have e5 : ((s.length : Int) == 10) = false := by rw [beq_eq_false_iff_ne]; omega
      have e8 : ((s.length : Int) == 11) = false := by rw [beq_eq_false_iff_ne]; omega
      have f8 : ((s.length : Int) != 11) = true := by simp [bne, e8]
      clear h5 h8
      go_enter Tryd.func29, Tryd.ntmps29
      go_wp2_with fail
      go_ret2
      rw [HU.out]
      exact ⟨rfl, Below.refl _ _⟩
end Go.Proofs.YtnjdgbbdjkhpoaaDoor
