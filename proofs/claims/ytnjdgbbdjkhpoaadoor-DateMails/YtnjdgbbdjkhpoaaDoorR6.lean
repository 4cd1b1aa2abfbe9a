/- What this text holds: the document's Number, Months, Month, Zone, two. -/
import Derived.Test.YtnjdgbbdjkhpoaaDoorR5
import Derived.Test.YtnjdgbbdjkhpoaaDoorU1
namespace Go.Proofs.YtnjdgbbdjkhpoaaDoor
open Go.RowKit
set_option linter.unusedVariables false
set_option linter.unusedSimpArgs false

/-- Decimal digits; -1: it is none. -/
def numR (l : Bs) : Int := if l.all digB = true ∧ 1 ≤ l.length ∧ l.length ≤ 9 then val l else -1
theorem all_next (l : Bs) (k : Nat) (hk : k < l.length) : (l.take (k + 1)).all digB = ((l.take k).all digB && digB l[k]) := by
  rw [List.take_succ_eq_append_getElem hk, List.all_append]
  simp
theorem all_bad (l : Bs) (k : Nat) (hk : k < l.length) (h : digB l[k] = false) : l.all digB = false := by
  rw [← Bool.not_eq_true, List.all_eq_true]
  intro ha
  rw [ha _ (List.getElem_mem hk)] at h
  cases h
theorem dig_yes {c : UInt8} (h1 : 48 ≤ c.toNat) (h2 : c.toNat ≤ 57) : digB c = true := by simp [digB, UInt8.le_iff_toNat_le, h1, h2]
theorem dig_no {c : UInt8} (h : c.toNat < 48 ∨ 57 < c.toNat) : digB c = false := by
  rw [← Bool.not_eq_true]
  intro e
  have := dig_range e
  omega
theorem all_get {l : Bs} {k : Nat} (h : (l.take k).all digB = true) : ∀ j, j < k → (hj : j < l.length) → digB l[j] = true := by
  intro j hj hl
  have := List.all_eq_true.1 h
  exact this _ (List.mem_take_iff_getElem.2 ⟨j, by omega, rfl⟩)
theorem val_nine (l : Bs) (k : Nat) (hk : k ≤ l.length) (h9 : k ≤ 9) (h : (l.take k).all digB = true) : 0 ≤ val (l.take k) ∧ val (l.take k) < 1000000000 := by
  have h1 := val_small l k hk (all_get h)
  have h2 : (10 : Int) ^ k ≤ 10 ^ 9 := by exact_mod_cast Nat.pow_le_pow_right (n := 10) (by omega) h9
  have e : (10 : Int) ^ 9 = 1000000000 := by decide
  omega

set_option maxRecDepth 100000 in
set_option maxHeartbeats 2000000 in
theorem rnumber_any (l : Bs) (hl : l.length ≤ 1000000) (w : World) : Calls Tryd.prog 44 #[.string (str l)] w fun e w' => e = .returned (.int .i64 (numR l)) ∧ w' = w := by
  have hsl := str_size l
  go_enter Tryd.func44, Tryd.ntmps44
  go_wp2_with fail
  go_loop [3, 4] (fun v i => ∃ (k : Nat) (x : Int), k ≤ l.length ∧ i = .int .i64 k ∧ v = .int .i64 x ∧ (l.length ≤ 9 → x = val (l.take k)) ∧ (l.take k).all digB = true) (fun _ i => l.length - (intOf i).toNat)
  case atStart => exact ⟨0, 0, by omega, rfl, rfl, fun _ => rfl, rfl⟩
  case round =>
    obtain ⟨k, x, hk, rfl, rfl, hx, ha⟩ := hrel
    have HX := hid hx
    have HA := hid ha
    clear hx ha
    by_cases hlt : k < l.length
    · have hlt' : (k : Int) < l.length := by omega
      have hks : k < (str l).size := by omega
      have gg : ((str l)[k]'hks) = l[k]'hlt := rfl
      have h8 := (l[k]'hlt).toNat_lt
      by_cases hlo : (l[k]'hlt).toNat < 48
      · have hlo' : ((l[k]'hlt).toNat : Int) < 48 := by omega
        have HV : Hid (numR l = -1) := by unfold Hid numR; rw [all_bad l k hlt (dig_no (.inl hlo))]; simp
        go_wp2_with fail
        go_ret
        rw [HV.out]
        exact ⟨rfl, rfl⟩
      · have hlo' : ¬ ((l[k]'hlt).toNat : Int) < 48 := by omega
        by_cases hhi : 57 < (l[k]'hlt).toNat
        · have hhi' : (57 : Int) < (l[k]'hlt).toNat := by omega
          have HV : Hid (numR l = -1) := by unfold Hid numR; rw [all_bad l k hlt (dig_no (.inr hhi))]; simp
          go_wp2_with fail
          go_ret
          rw [HV.out]
          exact ⟨rfl, rfl⟩
        · have hhi' : ¬ (57 : Int) < (l[k]'hlt).toNat := by omega
          have HD := hid (dig_yes (c := l[k]'hlt) (by omega) (by omega))
          by_cases h9 : l.length ≤ 9
          · obtain rfl := HX.out h9
            have hv := val_nine l k hk (by omega) HA.out
            have HS := hid (val_step l k hlt)
            go_wp2_with fail
            go_round
            case rel => exact ⟨k + 1, _, by omega, by go_num, rfl, fun _ => by rw [HS.out]; omega, by rw [all_next l k hlt, HA.out, HD.out]; rfl⟩
            case measure => simp [intOf]; omega
          · have H9 := hid h9
            clear h9
            go_wp2_with fail
            go_round
            case rel => exact ⟨k + 1, _, by omega, by go_num, rfl, fun h => absurd h H9.out, by rw [all_next l k hlt, HA.out, HD.out]; rfl⟩
            case measure => simp [intOf]; omega
    · obtain rfl : k = l.length := by omega
      have hlt' : ¬ (l.length : Int) < l.length := by omega
      have hall : l.all digB = true := by have := HA.out; rw [List.take_length] at this; exact this
      by_cases h0 : l.length = 0
      · have h0' : ((l.length : Int) == 0) = true := by rw [h0]; rfl
        have HV : Hid (numR l = -1) := by unfold Hid numR; rw [if_neg]; omega
        clear h0
        go_wp2_with fail
        go_ret
        rw [HV.out]
        exact ⟨rfl, rfl⟩
      · have h0' : ((l.length : Int) == 0) = false := by rw [beq_eq_false_iff_ne]; omega
        by_cases h9 : l.length ≤ 9
        · have h9' : ¬ (9 : Int) < l.length := by omega
          have HV : Hid (numR l = val l) := by unfold Hid numR; rw [if_pos ⟨hall, by omega, h9⟩]
          obtain rfl := HX.out h9
          rw [List.take_length]
          go_wp2_with fail
          go_ret
          rw [HV.out]
          exact ⟨rfl, rfl⟩
        · have h9' : (9 : Int) < l.length := by omega
          have HV : Hid (numR l = -1) := by unfold Hid numR; rw [if_neg]; omega
          go_wp2_with fail
          go_ret
          rw [HV.out]
          exact ⟨rfl, rfl⟩
end Go.Proofs.YtnjdgbbdjkhpoaaDoor
