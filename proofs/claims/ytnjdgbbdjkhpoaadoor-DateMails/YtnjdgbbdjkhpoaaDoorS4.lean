/- What this text holds: the program's reader: blanks, gap, end, number, upTo. -/
import Derived.Test.YtnjdgbbdjkhpoaaDoorS3
namespace Go.Proofs.YtnjdgbbdjkhpoaaDoor
open Go.RowKit
set_option linter.unusedVariables false
set_option linter.unusedSimpArgs false

theorem dw_drop (l : Bs) (k : Nat) (hk : k ≤ l.length) (ha : ∀ j, j < k → (h : j < l.length) → blankB l[j] = true) (hn : ∀ h : k < l.length, blankB l[k] = false) : l.dropWhile blankB = l.drop k := by
  induction k generalizing l with
  | zero =>
    cases l with
    | nil => rfl
    | cons c r => simp [List.dropWhile, show blankB c = false from hn (by simp)]
  | succ k ih =>
    cases l with
    | nil => simp at hk
    | cons c r =>
      have h0 : blankB c = true := ha 0 (by omega) (by simp)
      simp only [List.dropWhile, h0, List.drop_succ_cons]
      exact ih r (by simpa using hk) (fun j hj h => ha (j + 1) (by omega) (by simpa using h)) (fun h => hn (by simpa using h))
def headB (l : Bs) : Bool := match l with
  | c :: _ => blankB c
  | [] => false
theorem gap_head (l : Bs) : gapP l = if headB l then some (l.dropWhile blankB) else none := by
  cases l with
  | nil => rfl
  | cons c r =>
    unfold gapP headB
    simp only
    split <;> rename_i h <;> simp [List.dropWhile, h]

set_option maxRecDepth 100000 in
set_option maxHeartbeats 1000000 in
theorem blanks_any {w : World} {b : Nat} {l : Bs} {t : Dt} (h : RAt w b ⟨l, t⟩) (h1 : l.length ≤ 1000000) :
    Calls Tryd.prog 61 #[.pointer (some ⟨b, 0, none⟩)] w fun e w' => e = .returned (.bool (headB l)) ∧ RAt w' b ⟨l.dropWhile blankB, t⟩ ∧ Kept [b] w w' := by
  have hsl := str_size l
  have HD : Hid (∀ m, (str l).extract m l.length = str (l.drop m)) := fun m => by rw [← str_size]; exact drop_str l m
  have H := hid h
  have c0 := h.c0
  have f0 := h.fz 0
  simp only at c0
  clear h
  go_enter Tryd.func61, Tryd.ntmps61
  go_wp2_with fail
  go_loop [3] (fun i => ∃ k : Nat, k ≤ l.length ∧ i = .int .i64 k ∧ ∀ j, j < k → (h : j < l.length) → blankB l[j] = true) (fun i => l.length - (intOf i).toNat)
  case atStart => exact ⟨0, by omega, rfl, fun j hj => by omega⟩
  case round =>
    obtain ⟨k, hk, rfl, ha⟩ := hrel
    have HA := hid ha
    clear ha
    by_cases hkl : k < l.length
    · have hkl' : (k : Int) < l.length := by omega
      have hks : k < (str l).size := by omega
      have g1 : ((str l)[k]'hks) = l[k] := rfl
      rcases Bool.eq_false_or_eq_true (blankB l[k]) with hb | hb
      · have HB := hid hb
        go_wp2_with (go_at_call 73; refine (blank_any _ _).mono ?_; rintro e w' ⟨rfl, rfl⟩)
        go_round
        case rel => exact ⟨k + 1, by omega, by go_num, fun j hj h => by
          by_cases hjk : j < k
          · exact HA.out j hjk h
          · obtain rfl : j = k := by omega
            exact HB.out⟩
        case measure => simp [intOf]; omega
      · have HB := hid hb
        have hle' : (k : Int) ≤ l.length := by omega
        have HP : Hid (headB l = decide (0 < k)) := by
          unfold Hid
          cases l with
          | nil => simp at hkl
          | cons c r =>
            by_cases h0 : k = 0
            · subst h0; exact hb
            · have := HA.out 0 (by omega) (by simp)
              simp at this
              simp [headB, this]
              omega
        go_wp2_with (go_at_call 73; refine (blank_any _ _).mono ?_; rintro e w' ⟨rfl, rfl⟩)
        go_ret
        rw [HD.out, HP.out, dw_drop l k hk HA.out (fun _ => HB.out)]
        exact ⟨rfl, H.out.setL _, Kept.setCell _ _ _ _ (by simp)⟩
    · obtain rfl : k = l.length := by omega
      have HP : Hid (headB l = decide (0 < l.length)) := by
        unfold Hid
        cases l with
        | nil => rfl
        | cons c r =>
          have := HA.out 0 (by simp) (by simp)
          simp at this
          simp [headB, this]
      go_wp2_with fail
      go_ret
      rw [HP.out, dw_drop l _ hk HA.out (fun h => by omega), List.drop_length]
      exact ⟨rfl, H.out.setL [], Kept.setCell _ _ _ _ (by simp)⟩

set_option maxRecDepth 100000 in
set_option maxHeartbeats 1000000 in
theorem gap_yes {w : World} {b : Nat} {l l' : Bs} {t : Dt} (h : RAt w b ⟨l, t⟩) (h1 : l.length ≤ 1000000) (hq : gapP l = some l') :
    Calls Tryd.prog 62 #[.pointer (some ⟨b, 0, none⟩)] w fun e w' => e = .returned (.tuple #[]) ∧ RAt w' b ⟨l', t⟩ ∧ Kept [b] w w' := by
  have H := hid h
  rw [gap_head] at hq
  rcases Bool.eq_false_or_eq_true (headB l) with hb | hb
  · rw [hb, if_pos rfl] at hq
    cases hq
    clear h
    go_enter Tryd.func62, Tryd.ntmps62
    go_wp2_with fail
    refine (blanks_any H.out h1).mono ?_
    rintro e w1 ⟨rfl, h1, hk⟩
    have H1 := hid h1
    have HK := hid hk
    clear h1 hk
    go_wp2_with fail
    go_end0
    exact ⟨rfl, H1.out, HK.out⟩
  · rw [hb] at hq; simp at hq
set_option maxRecDepth 100000 in
set_option maxHeartbeats 1000000 in
theorem gap_no {w : World} {b : Nat} {l : Bs} {t : Dt} (h : RAt w b ⟨l, t⟩) (h1 : l.length ≤ 1000000) (hq : gapP l = none) :
    Calls Tryd.prog 62 #[.pointer (some ⟨b, 0, none⟩)] w fun e w' => e = .panicked faultC ∧ Kept [b] w w' := by
  have H := hid h
  rw [gap_head] at hq
  rcases Bool.eq_false_or_eq_true (headB l) with hb | hb
  · rw [hb, if_pos rfl] at hq
    cases hq
  · clear h
    go_enter Tryd.func62, Tryd.ntmps62
    go_wp2_with fail
    refine (blanks_any H.out h1).mono ?_
    rintro e w1 ⟨rfl, h1, hk⟩
    have HK := hid hk
    clear h1 hk
    go_wp2_with fail
    refine (stop_any _).mono ?_
    rintro e w2 ⟨rfl, rfl⟩
    exact ⟨rfl, rfl, HK.out⟩

theorem toList_str (l : Bs) : (str l).toList = l := by rw [Go.Lib.toList_data, str_data]
set_option maxRecDepth 100000 in
set_option maxHeartbeats 1000000 in
theorem end_yes {w : World} {b : Nat} {t : Dt} (h : RAt w b ⟨[], t⟩) : Calls Tryd.prog 59 #[.pointer (some ⟨b, 0, none⟩)] w fun e w' => e = .returned (.tuple #[]) ∧ w' = w := by
  have c0 := h.c0
  have hq : ((str []).toList == []) = true := by rw [toList_str]; rfl
  simp only at c0
  clear h
  go_enter Tryd.func59, Tryd.ntmps59
  go_wp2_with fail
  go_end0
  exact ⟨rfl, rfl⟩
set_option maxRecDepth 100000 in
set_option maxHeartbeats 1000000 in
theorem end_no {w : World} {b : Nat} {l : Bs} {t : Dt} (h : RAt w b ⟨l, t⟩) (hl : l ≠ []) : Calls Tryd.prog 59 #[.pointer (some ⟨b, 0, none⟩)] w fun e w' => e = .panicked faultC ∧ w' = w := by
  have c0 := h.c0
  have hq : ((str l).toList == []) = false := by rw [toList_str]; simpa using hl
  simp only at c0
  clear h
  go_enter Tryd.func59, Tryd.ntmps59
  go_wp2_with fail
  refine (stop_any _).mono ?_
  rintro e w2 ⟨rfl, rfl⟩
  exact ⟨rfl, rfl, rfl⟩
end Go.Proofs.YtnjdgbbdjkhpoaaDoor
