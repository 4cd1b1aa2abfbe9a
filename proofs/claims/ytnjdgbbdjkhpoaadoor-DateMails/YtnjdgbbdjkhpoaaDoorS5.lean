/- What this text holds: the program's reader: number, upTo, minutes. -/
import Derived.Test.YtnjdgbbdjkhpoaaDoorS4
namespace Go.Proofs.YtnjdgbbdjkhpoaaDoor
open Go.RowKit
set_option linter.unusedVariables false
set_option linter.unusedSimpArgs false

theorem tw_take (l : Bs) (k : Nat) (hk : k ≤ l.length) (ha : ∀ j, j < k → (h : j < l.length) → digB l[j] = true) (hn : ∀ h : k < l.length, digB l[k] = false) : l.takeWhile digB = l.take k := by
  induction k generalizing l with
  | zero =>
    cases l with
    | nil => rfl
    | cons c r => simp [List.takeWhile, show digB c = false from hn (by simp)]
  | succ k ih =>
    cases l with
    | nil => simp at hk
    | cons c r =>
      have h0 : digB c = true := ha 0 (by omega) (by simp)
      simp only [List.takeWhile, h0, List.take_succ_cons]
      rw [ih r (by simpa using hk) (fun j hj h => ha (j + 1) (by omega) (by simpa using h)) (fun h => hn (by simpa using h))]
theorem num_stop (l : Bs) (most k : Nat) (hm : k ≤ most) (hk : k ≤ l.length) (ha : ∀ j, j < k → (h : j < l.length) → digB l[j] = true) (hn : k = most ∨ ∀ h : k < l.length, digB l[k] = false) : numL most l = l.take k := by
  unfold numL
  rw [tw_take (l.take most) k (by simp; omega) (fun j hj h => by simp at h ⊢; exact ha j hj (by omega)) (fun h => by
    simp at h
    rcases hn with rfl | hn
    · omega
    · simp; exact hn (by omega))]
  rw [List.take_take, Nat.min_eq_left hm]
theorem val_step (l : Bs) (k : Nat) (hk : k < l.length) : val (l.take (k + 1)) = 10 * val (l.take k) + ((l[k].toNat : Int) - 48) := by
  unfold val
  rw [List.take_succ_eq_append_getElem hk, List.foldl_append]
  rfl
theorem dig_range {c : UInt8} (h : digB c = true) : 48 ≤ c.toNat ∧ c.toNat ≤ 57 := by
  simp [digB, UInt8.le_iff_toNat_le] at h
  exact h
theorem val_small (l : Bs) (k : Nat) (hk : k ≤ l.length) (ha : ∀ j, j < k → (h : j < l.length) → digB l[j] = true) : 0 ≤ val (l.take k) ∧ val (l.take k) < 10 ^ k := by
  induction k with
  | zero => simp [val]
  | succ k ih =>
    have h1 := ih (by omega) (fun j hj h => ha j (by omega) h)
    have h2 := dig_range (ha k (by omega) (by omega))
    rw [val_step l k (by omega), Int.pow_succ]
    omega

/-- A number and what is left behind it, or a stop. -/
def NumOut (o : Option (Int × Bs)) (b : Nat) (t : Dt) (w : World) (e : Ending) (w' : World) : Prop :=
  match o with
  | some (n, l') => e = .returned (.int .i64 n) ∧ RAt w' b ⟨l', t⟩ ∧ Kept [b] w w'
  | none => e = .panicked faultC ∧ Kept [b] w w'

set_option maxRecDepth 100000 in
set_option maxHeartbeats 2000000 in
/-- number, as far as its loop goes. -/
theorem number_any {w : World} {b : Nat} {l : Bs} {t : Dt} (h : RAt w b ⟨l, t⟩) (h1 : l.length ≤ 1000000) (least most : Nat) (hm : most ≤ 4) (hle : least ≤ 4) :
    Calls Tryd.prog 68 #[.pointer (some ⟨b, 0, none⟩), .int .i64 least, .int .i64 most] w fun e w' => NumOut (numP least most l) b t w e w' := by
  have hsl := str_size l
  have HD : Hid (∀ m, (str l).extract m l.length = str (l.drop m)) := fun m => by rw [← str_size]; exact drop_str l m
  have H := hid h
  have c0 := h.c0
  have f0 := h.fz 0
  simp only at c0
  clear h
  have fin : ∀ k : Nat, k ≤ l.length → numL most l = l.take k → numP least most l = if k < least then none else some (val (l.take k), l.drop k) := by
    intro k hk e
    have : (l.take k).length = k := by simp; omega
    unfold numP
    rw [e, this]
  have FIN := hid fin
  clear fin
  go_enter Tryd.func68, Tryd.ntmps68
  go_wp2_with fail
  go_loop [7, 8] (fun v i => ∃ k : Nat, k ≤ most ∧ k ≤ l.length ∧ i = .int .i64 k ∧ v = .int .i64 (val (l.take k)) ∧ ∀ j, j < k → (h : j < l.length) → digB l[j] = true) (fun _ i => most - (intOf i).toNat)
  case atStart => exact ⟨0, by omega, by omega, rfl, rfl, fun j hj => by omega⟩
  case round =>
    obtain ⟨k, hkm, hkl, rfl, rfl, ha⟩ := hrel
    have HA := hid ha
    have hv := val_small l k hkl ha
    have hv2 : val (l.take k) < 10000 := by
      have : (10 : Int) ^ k ≤ 10 ^ 4 := by exact_mod_cast Nat.pow_le_pow_right (n := 10) (by omega) (show k ≤ 4 by omega)
      have e : (10 : Int) ^ 4 = 10000 := by decide
      omega
    have hv1 := hv.1
    clear ha hv
    have hkl' : (k : Int) ≤ l.length := by omega
    have finish : ∀ (W : World), True → True := fun _ h => h
    by_cases hgo : k < most ∧ k < l.length
    · obtain ⟨g1, g2⟩ := hgo
      have g1' : (k : Int) < most := by omega
      have g2' : (k : Int) < l.length := by omega
      have hks : k < (str l).size := by omega
      have gg : ((str l)[k]'hks) = l[k] := rfl
      rcases Bool.eq_false_or_eq_true (digB l[k]) with hb | hb
      · have hr := dig_range hb
        have HB := hid hb
        have HV := hid (val_step l k g2)
        have r1 : (48 : Int) ≤ l[k].toNat := by omega
        have r2 : (l[k].toNat : Int) ≤ 57 := by omega
        go_wp2_with (go_at_call 84; refine (digit_any _ _).mono ?_; rintro e w' ⟨rfl, rfl⟩)
        go_round
        case rel => exact ⟨k + 1, by omega, by omega, by go_num, by rw [HV.out]; congr 1, fun j hj h => by
          by_cases hjk : j < k
          · exact HA.out j hjk h
          · obtain rfl : j = k := by omega
            exact HB.out⟩
        case measure => simp [intOf]; omega
      · have HF := hid (FIN.out k hkl (num_stop l most k hkm hkl HA.out (.inr (fun _ => hb))))
        by_cases hc : k < least
        · have hc' : (k : Int) < least := by omega
          go_wp2_with (first | (go_at_call 84; refine (digit_any _ _).mono ?_; rintro e w' ⟨rfl, rfl⟩))
          refine (stop_any _).mono ?_
          rintro e w2 ⟨rfl, rfl⟩
          refine ⟨rfl, ?_⟩
          change NumOut _ _ _ _ _ _
          rw [HF.out, if_pos hc]
          exact ⟨rfl, Kept.refl _ _⟩
        · have hc' : ¬ (k : Int) < least := by omega
          go_wp2_with (first | (go_at_call 84; refine (digit_any _ _).mono ?_; rintro e w' ⟨rfl, rfl⟩))
          go_ret
          rw [HD.out, HF.out, if_neg hc]
          exact ⟨rfl, H.out.setL _, Kept.setCell _ _ _ _ (by simp)⟩
    · have HF := hid (FIN.out k hkl (num_stop l most k hkm hkl HA.out (by
        by_cases hm : k < most
        · exact .inr (fun h => by omega)
        · exact .inl (by omega))))
      have HX : Hid (∀ m, m = l.length → (str l).extract m l.length = str (l.drop m)) := fun m _ => HD.out m
      by_cases hm : k < most
      · obtain rfl : k = l.length := by omega
        have g1' : ((l.length : Nat) : Int) < most := by omega
        have HE : Hid (ByteArray.empty = str (l.drop l.length)) := by unfold Hid; rw [List.drop_length]; rfl
        by_cases hc : l.length < least
        · have hc' : (l.length : Int) < least := by omega
          go_wp2_with fail
          refine (stop_any _).mono ?_
          rintro e w2 ⟨rfl, rfl⟩
          refine ⟨rfl, ?_⟩
          change NumOut _ _ _ _ _ _
          rw [HF.out, if_pos hc]
          exact ⟨rfl, Kept.refl _ _⟩
        · have hc' : ¬ (l.length : Int) < least := by omega
          go_wp2_with fail
          go_ret
          rw [HE.out, HF.out, if_neg hc, List.take_length]
          exact ⟨rfl, H.out.setL _, Kept.setCell _ _ _ _ (by simp)⟩
      · have g1' : ¬ (k : Int) < most := by omega
        by_cases hc : k < least
        · have hc' : (k : Int) < least := by omega
          go_wp2_with fail
          refine (stop_any _).mono ?_
          rintro e w2 ⟨rfl, rfl⟩
          refine ⟨rfl, ?_⟩
          change NumOut _ _ _ _ _ _
          rw [HF.out, if_pos hc]
          exact ⟨rfl, Kept.refl _ _⟩
        · have hc' : ¬ (k : Int) < least := by omega
          go_wp2_with fail
          go_ret
          rw [HD.out, HF.out, if_neg hc]
          exact ⟨rfl, H.out.setL _, Kept.setCell _ _ _ _ (by simp)⟩
end Go.Proofs.YtnjdgbbdjkhpoaaDoor
