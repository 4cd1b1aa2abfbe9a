/- What this text holds: the loops over a pager's sheets. -/
import Derived.Test.YtambgimfbdecpaaGBase
namespace Go.Proofs.Ytambgimfbdecpaa
open Go.RowKit
set_option linter.unusedVariables false

/-- The lowest free page; 0: there is none. -/
def lowFree (st : List (Int × Int)) : Nat := ((List.range st.length).find? fun i => decide (2 ≤ i) && (stOf st i == 0)).getD 0
theorem lowFree_yes {st : List (Int × Int)} {k : Nat} (hk : k < st.length) (h2 : 2 ≤ k) (h0 : stOf st k = 0) (hb : ∀ j, 2 ≤ j → j < k → stOf st j ≠ 0) : lowFree st = k := by
  have : (List.range st.length).find? (fun i => decide (2 ≤ i) && (stOf st i == 0)) = some k := by
    rw [List.find?_range_eq_some]
    refine ⟨by simp [h2, h0], by simpa using hk, ?_⟩
    intro j hj
    by_cases h : 2 ≤ j
    · simp [hb j h hj]
    · simp [h]
  unfold lowFree
  rw [this]
  rfl
theorem lowFree_no {st : List (Int × Int)} (hb : ∀ j, 2 ≤ j → j < st.length → stOf st j ≠ 0) : lowFree st = 0 := by
  have : (List.range st.length).find? (fun i => decide (2 ≤ i) && (stOf st i == 0)) = none := by
    rw [List.find?_range_eq_none]
    intro j hj
    by_cases h : 2 ≤ j
    · simp [hb j h hj]
    · simp [h]
  unfold lowFree
  rw [this]
  rfl

set_option maxRecDepth 100000 in
set_option maxHeartbeats 1000000 in
theorem lowestFree_any {w : World} {b gs n : Nat} {st : List (Int × Int)} (h : ShAt w b gs n st) :
    Calls Try.prog 64 #[.pointer (some ⟨b, 1, none⟩)] w fun e w' => e = .returned (.int .i64 (lowFree st)) ∧ w' = w := by
  have hc := h.c
  have hm := h.max
  have HH := hid h
  have HL := hid h.len
  clear h
  go_enter Try.func64, Try.ntmps64
  go_wp2
  go_loop [3] (fun q => ∃ k : Nat, 2 ≤ k ∧ (k ≤ n ∨ k = 2) ∧ q = .int .i64 k ∧ Hid (∀ j, 2 ≤ j → j < k → stOf st j ≠ 0)) (fun q => n - (intOf q).toNat)
  case atStart => exact ⟨2, Nat.le_refl _, .inr rfl, rfl, fun j h1 h2 => by omega⟩
  case round =>
    obtain ⟨k, hk2, hkn, rfl, hrest⟩ := hrel
    by_cases hlt : k < n
    · have hlt' : (k : Int) < n := by omega
      have hs := HH.out.st k hlt
      by_cases h0 : stOf st k = 0
      · have h0' : (stOf st k == 0) = true := by rw [beq_iff_eq]; exact h0
        have HZ := hid h0
        clear h0
        go_wp2
        go_ret
        rw [lowFree_yes (by rw [HL.out]; exact hlt) hk2 HZ.out hrest.out]
        exact ⟨rfl, rfl⟩
      · have h0' : (stOf st k == 0) = false := by rw [beq_eq_false_iff_ne]; exact h0
        have HZ := hid h0
        clear h0
        go_wp2
        go_round
        case rel =>
          refine ⟨k + 1, by omega, .inl (by omega), by go_num, fun j h1 h2 => ?_⟩
          by_cases e : j = k
          · subst e; exact HZ.out
          · exact hrest.out j h1 (by omega)
        case measure => simp [intOf]; omega
    · have hlt' : ¬ (k : Int) < n := by omega
      go_wp2
      go_ret
      rw [lowFree_no (fun j h1 h2 => hrest.out j h1 (by rw [HL.out] at h2; omega))]
      exact ⟨rfl, rfl⟩

/-- How many pages are free. -/
def cntFree (st : List (Int × Int)) : Nat := (st.drop 2).countP fun x => x.1 == 0
theorem cnt_step (st : List (Int × Int)) (k : Nat) (h2 : 2 ≤ k) (hk : k < st.length) : cntFree (st.take (k + 1)) = cntFree (st.take k) + if stOf st k = 0 then 1 else 0 := by
  unfold cntFree
  rw [List.take_succ_eq_append_getElem hk, List.drop_append_of_le_length (by rw [List.length_take]; omega), List.countP_append, List.countP_singleton, stOf_eq st k hk]
  simp
theorem cnt_le (st : List (Int × Int)) : cntFree st ≤ st.length := by
  unfold cntFree
  exact Nat.le_trans List.countP_le_length (by rw [List.length_drop]; omega)

set_option maxRecDepth 100000 in
set_option maxHeartbeats 1000000 in
theorem countFree_any {w : World} {b gs n : Nat} {st : List (Int × Int)} (h : ShAt w b gs n st) :
    Calls Try.prog 60 #[.pointer (some ⟨b, 1, none⟩)] w fun e w' => e = .returned (.int .i64 (cntFree st)) ∧ w' = w := by
  have hc := h.c
  have hm := h.max
  have HH := hid h
  have HL := hid h.len
  clear h
  go_enter Try.func60, Try.ntmps60
  go_wp2
  go_loop [4, 3] (fun q c => ∃ k : Nat, 2 ≤ k ∧ (k ≤ n ∨ k = 2) ∧ q = .int .i64 k ∧ c = .int .i64 (cntFree (st.take k))) (fun q _ => n - (intOf q).toNat)
  case atStart =>
    refine ⟨2, Nat.le_refl _, .inr rfl, rfl, ?_⟩
    have : cntFree (st.take 2) = 0 := by unfold cntFree; rw [List.drop_of_length_le (by rw [List.length_take]; omega)]; rfl
    rw [this]; rfl
  case round =>
    obtain ⟨k, hk2, hkn, rfl, rfl⟩ := hrel
    by_cases hlt : k < n
    · have hlt' : (k : Int) < n := by omega
      have hs := HH.out.st k hlt
      have hstep := cnt_step st k hk2 (by rw [HL.out]; exact hlt)
      have hcl : cntFree (st.take k) ≤ 4096 := Nat.le_trans (cnt_le _) (by rw [List.length_take]; omega)
      have HS := hid hstep
      clear hstep
      by_cases h0 : stOf st k = 0
      · have h0' : (stOf st k == 0) = true := by rw [beq_iff_eq]; exact h0
        have HZ := hid h0
        clear h0
        go_wp2
        go_round
        case rel =>
          refine ⟨k + 1, by omega, .inl (by omega), by go_num, ?_⟩
          rw [HS.out, if_pos HZ.out]
          go_num
        case measure => simp [intOf]; omega
      · have h0' : (stOf st k == 0) = false := by rw [beq_eq_false_iff_ne]; exact h0
        have HZ := hid h0
        clear h0
        go_wp2
        go_round
        case rel =>
          refine ⟨k + 1, by omega, .inl (by omega), by go_num, ?_⟩
          rw [HS.out, if_neg HZ.out]
          rfl
        case measure => simp [intOf]; omega
    · have hlt' : ¬ (k : Int) < n := by omega
      go_wp2
      go_ret
      have e : cntFree (st.take k) = cntFree st := by
        rcases hkn with h | h
        · rw [List.take_of_length_le (by rw [HL.out]; omega)]
        · subst h
          have hl := HL.out
          unfold cntFree
          rw [List.drop_of_length_le (by rw [List.length_take]; omega), List.drop_of_length_le (by omega)]
      rw [e]
      exact ⟨rfl, rfl⟩
end Go.Proofs.Ytambgimfbdecpaa
