/- What this text holds: the document's Months, Month, two, Zone. -/
import Derived.Test.YtnjdgbbdjkhpoaaDoorR7a
namespace Go.Proofs.YtnjdgbbdjkhpoaaDoor
open Go.RowKit
set_option linter.unusedVariables false
set_option linter.unusedSimpArgs false

/-- Which month a name is. -/
def monthR (s : Bs) : Int := match (List.range 12).find? (fun i : Nat => low (monthN ((i : Int) + 1)) == low s) with
  | some i => (i : Int) + 1
  | none => 0
theorem monthR_yes {s : Bs} {k : Nat} (hk : k < 12) (hn : ∀ j : Nat, j < k → (low (monthN ((j : Int) + 1)) == low s) = false) (hy : (low (monthN ((k : Int) + 1)) == low s) = true) : monthR s = (k : Int) + 1 := by
  unfold monthR
  rw [List.find?_range_eq_some.2 ⟨hy, List.mem_range.2 hk, fun j hj => by simp [hn j hj]⟩]
theorem monthR_no {s : Bs} (hn : ∀ j : Nat, j < 12 → (low (monthN ((j : Int) + 1)) == low s) = false) : monthR s = 0 := by
  unfold monthR
  rw [List.find?_eq_none.2 (fun i hi => by simp [hn i (List.mem_range.1 hi)])]

set_option maxRecDepth 100000 in
set_option maxHeartbeats 1000000 in
theorem rmonth_any (s : Bs) (hs : s.length ≤ 1000000) (w : World) : Calls Tryd.prog 45 #[.string (str s)] w fun e w' => e = .returned (.int .i64 (monthR s)) ∧ Below w.heap.size w w' := by
  go_enter Tryd.func45, Tryd.ntmps45
  go_wp2_with fail
  go_loopw [3] (fun i wr => ∃ k : Nat, k ≤ 12 ∧ i = .int .i64 ((k : Int) + 1) ∧ (∀ j : Nat, j < k → (low (monthN ((j : Int) + 1)) == low s) = false) ∧ Below w.heap.size w wr) (fun i _ => 14 - (intOf i).toNat)
  case atStart => exact ⟨0, by omega, rfl, fun j hj => by omega, Below.refl _ _⟩
  case round =>
    obtain ⟨k, hk, rfl, ha, hb⟩ := hrel
    have HA := hid ha
    have HB := hid hb
    clear ha hb
    by_cases hlt : k < 12
    · have hlt' : (k : Int) + 1 ≤ 12 := by omega
      have hm0 : (1 : Int) ≤ (k : Int) + 1 := by omega
      have hl3 := month_len' ((k : Int) + 1) hm0 hlt'
      have HL3 := hid hl3
      have hq := str_eq (low (monthN ((k : Int) + 1))) (low s)
      clear hl3
      go_wp2_with fail
      refine (months_any _ hm0 hlt' _).mono ?_
      rintro e w1 ⟨rfl, hb⟩
      have HB1 := hid (HB.out.trans (hb.mono HB.out.size))
      clear hb
      go_wp2_with fail
      refine (rlower_any _ _ (by rw [HL3.out]; omega)).mono ?_
      rintro e w2 ⟨rfl, hb⟩
      have HB2 := hid (HB1.out.trans (hb.mono HB1.out.size))
      clear hb
      go_wp2_with fail
      refine (rlower_any s _ (by omega)).mono ?_
      rintro e w3 ⟨rfl, hb⟩
      have HB3 := hid (HB2.out.trans (hb.mono HB2.out.size))
      clear hb
      rcases Bool.eq_false_or_eq_true (low (monthN ((k : Int) + 1)) == low s) with he | he
      · have hd : decide (low (monthN ((k : Int) + 1)) = low s) = true := by simpa using he
        rw [hd] at hq
        have HV := hid (monthR_yes hlt HA.out he)
        clear hd he
        go_wp2_with fail
        go_ret
        rw [HV.out]
        exact ⟨rfl, HB3.out⟩
      · have hd : decide (low (monthN ((k : Int) + 1)) = low s) = false := by simpa using he
        rw [hd] at hq
        have HE := hid he
        clear hd he
        go_wp2_with fail
        go_roundw
        case rel => exact ⟨k + 1, by omega, by go_num, fun j hj => by
          by_cases hjk : j < k
          · exact HA.out j hjk
          · obtain rfl : j = k := by omega
            exact HE.out, HB3.out⟩
        case measure => simp [intOf]; omega
    · obtain rfl : k = 12 := by omega
      have HV := hid (monthR_no HA.out)
      go_wp2_with fail
      go_ret
      rw [HV.out]
      exact ⟨rfl, HB.out⟩

theorem conv_two (w : World) (x y : UInt8) (c : Nat) (g : Nat) (h : w.heap[g]? = some (.cells #[.int .u8 x.toNat, .int .u8 y.toNat] 5 (0, 0))) : (convert 41 9 (.slice (some ⟨g, 0, none⟩) 2 c)).run Tryd.prog w = .ok (.string (str [x, y])) w := by
  have := run_convert_bytes_arg w 41 5 Tryd.underlying41 Tryd.underlying5 g 0 2 c [(x.toNat : Int), (y.toNat : Int)] rfl (fun i hi => by
    simp only [World.cell?, h]
    match i, hi with
    | 0, _ => rfl
    | 1, _ => rfl) 9 Tryd.underlying9
  rw [this]
  have e : strOfNums [(x.toNat : Int), (y.toNat : Int)] = str [x, y] := by simp [strOfNums, str]
  rw [e]
theorem dg_nat (n : Int) (h : 0 ≤ n) : ((dg n).toNat : Int) = 48 + n % 10 := dg_val n

set_option maxRecDepth 100000 in
set_option maxHeartbeats 1000000 in
theorem rtwo_any (n : Int) (h0 : 0 ≤ n) (h1 : n ≤ 100000) (w : World) : Calls Tryd.prog 48 #[.int .i64 n] w fun e w' => e = .returned (.string (str (two n))) ∧ Below w.heap.size w w' := by
  have e1 := tdiv_pos n 10 h0
  have e2 := tmod_pos (n / 10) 10 (by omega)
  have e3 := tmod_pos n 10 h0
  have hcv := conv_two (w.alloc (.cells #[.int .u8 ((dg (n / 10)).toNat : Int), .int .u8 ((dg n).toNat : Int)] 5)) (dg (n / 10)) (dg n) 2 w.heap.size (heap_alloc_new _ _)
  rw [dg_val, dg_val] at hcv
  go_enter Tryd.func48, Tryd.ntmps48
  go_wp2_with fail
  go_ret
  exact ⟨rfl, (Below.refl _ _).alloc (Nat.le_refl _) _⟩

/-- + or -, two digits, two digits. -/
def zoneT (s : Bs) : Option Int :=
  if s.length = 5 ∧ (s.head? = some 43 ∨ s.head? = some 45) ∧ 0 ≤ numR ((s.drop 1).take 2) ∧ numR ((s.drop 1).take 2) ≤ 23 ∧ 0 ≤ numR ((s.drop 3).take 2) ∧ numR ((s.drop 3).take 2) ≤ 59 then
    some (if s.head? = some 45 then -60 * numR ((s.drop 1).take 2) - numR ((s.drop 3).take 2) else 60 * numR ((s.drop 1).take 2) + numR ((s.drop 3).take 2))
  else none
theorem head_at {s : Bs} (h : 0 < s.length) : s.head? = some s[0] := by
  cases s with
  | nil => simp at h
  | cons a l => rfl
theorem zone_at {s : Bs} {c : UInt8} {H M : Int} (h5 : s.length = 5) (hc : s.head? = some c) (hH : numR ((s.drop 1).take 2) = H) (hM : numR ((s.drop 3).take 2) = M) :
    zoneT s = if (c = 43 ∨ c = 45) ∧ 0 ≤ H ∧ H ≤ 23 ∧ 0 ≤ M ∧ M ≤ 59 then some (if c = 45 then -60 * H - M else 60 * H + M) else none := by
  unfold zoneT
  rw [hc, hH, hM]
  simp only [h5, Option.some.injEq, true_and]
theorem u8_int (c : UInt8) (k : Nat) (hk : k < 256) : ((c.toNat : Int) == (k : Int)) = decide (c = UInt8.ofNat k) := by
  rw [Bool.eq_iff_iff]
  simp [u8_eq c k hk]
  omega

set_option maxRecDepth 100000 in
set_option maxHeartbeats 2000000 in
theorem rzone_any (s : Bs) (hs : s.length ≤ 1000000) (w : World) : Calls Tryd.prog 43 #[.string (str s)] w fun e w' => e = .returned (.tuple #[.int .i64 ((zoneT s).getD 0), .bool (zoneT s).isSome]) ∧ w' = w := by
  have hsz := str_size s
  by_cases h5 : s.length = 5
  · have h5' : ((s.length : Int) == 5) = true := by rw [h5]; rfl
    have f5 : ((s.length : Int) != 5) = false := by rw [h5]; rfl
    have hx : 0 < (str s).size := by omega
    have hh := head_at (s := s) (by omega)
    have gg : (str s)[0]'hx = s[0]'(by omega) := rfl
    have HM1 : Hid ((str s).extract 1 3 = str ((s.drop 1).take 2)) := mid_str s 1 3
    have HM3 : Hid ((str s).extract 3 5 = str ((s.drop 3).take 2)) := mid_str s 3 5
    have C1 := rnumber_any ((s.drop 1).take 2) (by simp; omega)
    have C3 := rnumber_any ((s.drop 3).take 2) (by simp; omega)
    rw [← HM1.out] at C1
    rw [← HM3.out] at C3
    have HC1 := hid C1
    have HC3 := hid C3
    clear C1 C3
    have HZ := hid (zone_at h5 hh rfl rfl)
    generalize numR ((s.drop 1).take 2) = H at HC1 HZ
    generalize numR ((s.drop 3).take 2) = M at HC3 HZ
    have l1 : (1 : Int) ≤ s.length := by omega
    have l3 : (3 : Int) ≤ s.length := by omega
    have l5 : (5 : Int) ≤ s.length := by omega
    generalize s[0]'(by omega) = c at gg HZ
    clear hh h5
    by_cases c43 : c = 43
    · have e43 : ((c.toNat : Int) == 43) = true := by rw [c43]; rfl
      have e45 : ((c.toNat : Int) == 45) = false := by rw [c43]; rfl
      have f43 : ((c.toNat : Int) != 43) = false := by rw [c43]; rfl
      have f45 : ((c.toNat : Int) != 45) = true := by rw [c43]; rfl
      by_cases hH : 0 ≤ H ∧ H ≤ 23
      · have d1 : (decide (0 ≤ H) && decide (H ≤ 23)) = true := by simp [hH]
        by_cases hM : 0 ≤ M ∧ M ≤ 59
        · have d2 : (decide (0 ≤ M) && decide (M ≤ 59)) = true := by simp [hM]
          have HV : Hid (zoneT s = some (60 * H + M)) := by unfold Hid; rw [HZ.out, if_pos ⟨.inl c43, hH.1, hH.2, hM.1, hM.2⟩, if_neg (by rw [c43]; decide)]
          obtain ⟨h1, h2⟩ := hH
          obtain ⟨m1, m2⟩ := hM
          clear c43
          go_enter Tryd.func43, Tryd.ntmps43
          go_wp2_with fail
          refine (HC1.out _).mono ?_
          rintro e w1 ⟨rfl, rfl⟩
          go_wp2_with fail
          refine (HC3.out _).mono ?_
          rintro e w2 ⟨rfl, rfl⟩
          go_wp2_with (first | (go_at_call 39; refine (in_any _ _ _ _).mono ?_; rintro e w' ⟨rfl, rfl⟩; first | rw [d1] | rw [d2]))
          go_ret2
          rw [HV.out]
          exact ⟨rfl, rfl⟩
        · have d2 : (decide (0 ≤ M) && decide (M ≤ 59)) = false := by simp; omega
          have HV : Hid (zoneT s = none) := by unfold Hid; rw [HZ.out, if_neg]; omega
          clear c43 hM hH
          go_enter Tryd.func43, Tryd.ntmps43
          go_wp2_with fail
          refine (HC1.out _).mono ?_
          rintro e w1 ⟨rfl, rfl⟩
          go_wp2_with fail
          refine (HC3.out _).mono ?_
          rintro e w2 ⟨rfl, rfl⟩
          go_wp2_with (first | (go_at_call 39; refine (in_any _ _ _ _).mono ?_; rintro e w' ⟨rfl, rfl⟩; first | rw [d1] | rw [d2]))
          go_ret2
          rw [HV.out]
          exact ⟨rfl, rfl⟩
      · have d1 : (decide (0 ≤ H) && decide (H ≤ 23)) = false := by simp; omega
        have HV : Hid (zoneT s = none) := by unfold Hid; rw [HZ.out, if_neg]; omega
        clear c43 hH
        go_enter Tryd.func43, Tryd.ntmps43
        go_wp2_with fail
        refine (HC1.out _).mono ?_
        rintro e w1 ⟨rfl, rfl⟩
        go_wp2_with fail
        refine (HC3.out _).mono ?_
        rintro e w2 ⟨rfl, rfl⟩
        go_wp2_with (first | (go_at_call 39; refine (in_any _ _ _ _).mono ?_; rintro e w' ⟨rfl, rfl⟩; rw [d1]))
        go_ret2
        rw [HV.out]
        exact ⟨rfl, rfl⟩
    by_cases c45 : c = 45
    · have e43 : ((c.toNat : Int) == 43) = false := by rw [c45]; rfl
      have e45 : ((c.toNat : Int) == 45) = true := by rw [c45]; rfl
      have f43 : ((c.toNat : Int) != 43) = true := by rw [c45]; rfl
      have f45 : ((c.toNat : Int) != 45) = false := by rw [c45]; rfl
      by_cases hH : 0 ≤ H ∧ H ≤ 23
      · have d1 : (decide (0 ≤ H) && decide (H ≤ 23)) = true := by simp [hH]
        by_cases hM : 0 ≤ M ∧ M ≤ 59
        · have d2 : (decide (0 ≤ M) && decide (M ≤ 59)) = true := by simp [hM]
          have HV : Hid (zoneT s = some (-60 * H - M)) := by unfold Hid; rw [HZ.out, if_pos ⟨.inr c45, hH.1, hH.2, hM.1, hM.2⟩, if_pos c45]
          obtain ⟨h1, h2⟩ := hH
          obtain ⟨m1, m2⟩ := hM
          clear c45
          go_enter Tryd.func43, Tryd.ntmps43
          go_wp2_with fail
          refine (HC1.out _).mono ?_
          rintro e w1 ⟨rfl, rfl⟩
          go_wp2_with fail
          refine (HC3.out _).mono ?_
          rintro e w2 ⟨rfl, rfl⟩
          go_wp2_with (first | (go_at_call 39; refine (in_any _ _ _ _).mono ?_; rintro e w' ⟨rfl, rfl⟩; first | rw [d1] | rw [d2]))
          go_ret2
          rw [HV.out]
          exact ⟨rfl, rfl⟩
        · have d2 : (decide (0 ≤ M) && decide (M ≤ 59)) = false := by simp; omega
          have HV : Hid (zoneT s = none) := by unfold Hid; rw [HZ.out, if_neg]; omega
          clear c45 hM hH
          go_enter Tryd.func43, Tryd.ntmps43
          go_wp2_with fail
          refine (HC1.out _).mono ?_
          rintro e w1 ⟨rfl, rfl⟩
          go_wp2_with fail
          refine (HC3.out _).mono ?_
          rintro e w2 ⟨rfl, rfl⟩
          go_wp2_with (first | (go_at_call 39; refine (in_any _ _ _ _).mono ?_; rintro e w' ⟨rfl, rfl⟩; first | rw [d1] | rw [d2]))
          go_ret2
          rw [HV.out]
          exact ⟨rfl, rfl⟩
      · have d1 : (decide (0 ≤ H) && decide (H ≤ 23)) = false := by simp; omega
        have HV : Hid (zoneT s = none) := by unfold Hid; rw [HZ.out, if_neg]; omega
        clear c45 hH
        go_enter Tryd.func43, Tryd.ntmps43
        go_wp2_with fail
        refine (HC1.out _).mono ?_
        rintro e w1 ⟨rfl, rfl⟩
        go_wp2_with fail
        refine (HC3.out _).mono ?_
        rintro e w2 ⟨rfl, rfl⟩
        go_wp2_with (first | (go_at_call 39; refine (in_any _ _ _ _).mono ?_; rintro e w' ⟨rfl, rfl⟩; rw [d1]))
        go_ret2
        rw [HV.out]
        exact ⟨rfl, rfl⟩
    have e43 : ((c.toNat : Int) == 43) = false := by rw [show ((43 : Int)) = ((43 : Nat) : Int) from rfl, u8_int c 43 (by omega)]; simpa using c43
    have e45 : ((c.toNat : Int) == 45) = false := by rw [show ((45 : Int)) = ((45 : Nat) : Int) from rfl, u8_int c 45 (by omega)]; simpa using c45
    have f43 : ((c.toNat : Int) != 43) = true := by simp [bne, e43]
    have f45 : ((c.toNat : Int) != 45) = true := by simp [bne, e45]
    have HV : Hid (zoneT s = none) := by unfold Hid; rw [HZ.out, if_neg]; rintro ⟨h | h, _⟩ <;> contradiction
    clear c43 c45
    go_enter Tryd.func43, Tryd.ntmps43
    go_wp2_with fail
    go_ret2
    rw [HV.out]
    exact ⟨rfl, rfl⟩
  · have h5' : ((s.length : Int) == 5) = false := by rw [beq_eq_false_iff_ne]; omega
    have f5 : ((s.length : Int) != 5) = true := by simp [bne, h5']
    have HV : Hid (zoneT s = none) := by unfold Hid zoneT; rw [if_neg]; omega
    clear h5
    go_enter Tryd.func43, Tryd.ntmps43
    go_wp2_with fail
    go_ret2
    rw [HV.out]
    exact ⟨rfl, rfl⟩
end Go.Proofs.YtnjdgbbdjkhpoaaDoor
