/- What this text holds: the document's Base64. -/
import Derived.Test.YtjmjeiegbkfdbaaDoorR3
namespace Go.Proofs.YtjmjeiegbkfdbaaDoor
open Go.RowKit
set_option linter.unusedVariables false
set_option linter.unusedSimpArgs false

theorem letterI (z : Int) (n : Nat) (w : World) (hz : z = n) (h : n < 64) : Calls Tryd.prog 31 #[.int .i64 z] w fun e w' => e = .returned (.string (str [let64 n])) ∧ w' = w := by
  subst hz
  exact letter_any n w h
theorem join4 (d : Bs) (a b c e : UInt8) : str d ++ str [a] ++ str [b] ++ str [c] ++ str [e] = str (d ++ ([a, b] ++ [c] ++ [e])) := by
  rw [app_str, app_str, app_str, app_str]; simp
theorem len1 (a : UInt8) : (str [a]).size = 1 := rfl

set_option maxRecDepth 100000 in
set_option maxHeartbeats 4000000 in
theorem rbase64_any (s : Bs) (w : World) (hs : s.length ≤ 100000) : Calls Tryd.prog 13 #[.string (str s)] w fun e w' => e = .returned (.string (str (b64 s))) ∧ w' = w := by
  have hsz := str_size s
  go_enter Tryd.func13, Tryd.ntmps13
  go_wp2_with fail
  go_loop [3, 4] (fun v i => ∃ (k : Nat) (d : Bs), k ≤ s.length + 2 ∧ i = .int .i64 k ∧ v = .string (str d) ∧ d ++ b64 (s.drop k) = b64 s) (fun _ i => s.length + 2 - (intOf i).toNat)
  case atStart => exact ⟨0, [], by omega, rfl, rfl, rfl⟩
  case round =>
    obtain ⟨k, d, hk, rfl, rfl, hd⟩ := hrel
    have HD := hid hd
    have hds := str_size d
    have hdl : (d.length : Int) ≤ 200000 := by
      have := congrArg List.length hd
      rw [List.length_append, b64_len, b64_len] at this
      omega
    clear hd
    by_cases hlt : k < s.length
    · have hlt' : (k : Int) < s.length := by omega
      have hlts : k < (str s).size := by omega
      have g0 : ((str s)[k]'hlts) = s[k] := rfl
      have hne : s.drop k ≠ [] := by rw [drop1 s k hlt]; exact List.cons_ne_nil _ _
      have hv := val_is s k hlt
      have hX := val_lt ((s.drop k).take 3)
      have b0 := s[k].toNat_lt
      have HN : Hid (∀ x, four ((s.drop k).take 3) = x → (d ++ x) ++ b64 (s.drop (k + 3)) = b64 s) := by
        rintro x rfl
        rw [← HD.out, b64_step _ hne, List.drop_drop, List.append_assoc]
      have hf := four_is (s.drop k) hne
      rw [List.length_drop] at hf
      generalize val ((s.drop k).take 3) = X at *
      clear hne
      by_cases h1 : k + 1 < s.length
      · have h1' : (k : Int) + 1 < s.length := by omega
        have g1 : ((str s)[k + 1]'(by omega)) = s[k + 1] := rfl
        have b1 := s[k + 1].toNat_lt
        by_cases h2 : k + 2 < s.length
        · have h2' : (k : Int) + 2 < s.length := by omega
          have g2 : ((str s)[k + 2]'(by omega)) = s[k + 2] := rfl
          have b2 := s[k + 2].toNat_lt
          rw [dif_pos h1, dif_pos h2] at hv
          have hvX : (s[k].toNat : Int) * 65536 + (s[k + 1].toNat : Int) * 256 + (s[k + 2].toNat : Int) = X := by omega
          have HF := hid (HN.out _ (by rw [hf, if_pos (by omega), if_pos (by omega)]))
          clear hv hf HN HD
          have HJ := hid (join4 d (let64 (X / 262144)) (let64 (X / 4096 % 64)) (let64 (X / 64 % 64)) (let64 (X % 64)))
          have z1 := len1 (let64 (X / 262144))
          have z2 := len1 (let64 (X / 4096 % 64))
          have z3 := len1 (let64 (X / 64 % 64))
          have z4 := len1 (let64 (X % 64))
          go_wp2_with fail
          refine (letterI _ (X / 262144) w (by omega) (by omega)).mono ?_
          rintro e w2 ⟨rfl, rfl⟩
          go_wp2_with fail
          refine (letterI _ (X / 4096 % 64) w2 (by omega) (by omega)).mono ?_
          rintro e w3 ⟨rfl, rfl⟩
          go_wp2_with fail
          refine (letterI _ (X / 64 % 64) w3 (by omega) (by omega)).mono ?_
          rintro e w4 ⟨rfl, rfl⟩
          go_wp2_with fail
          refine (letterI _ (X % 64) w4 (by omega) (by omega)).mono ?_
          rintro e w5 ⟨rfl, rfl⟩
          go_wp2_with fail
          go_round
          case rel => exact ⟨k + 3, _, by omega, by go_num, congrArg Value.string HJ.out, HF.out⟩
          case measure => simp [intOf]; omega
        · have h2' : ¬ (k : Int) + 2 < s.length := by omega
          rw [dif_pos h1, dif_neg h2] at hv
          have hvX : (s[k].toNat : Int) * 65536 + (s[k + 1].toNat : Int) * 256 = X := by omega
          have HF := hid (HN.out _ (by rw [hf, if_pos (by omega), if_neg (by omega)]))
          clear hv hf HN HD
          have HJ := hid (join4 d (let64 (X / 262144)) (let64 (X / 4096 % 64)) (let64 (X / 64 % 64)) (61))
          have z1 := len1 (let64 (X / 262144))
          have z2 := len1 (let64 (X / 4096 % 64))
          have z3 := len1 (let64 (X / 64 % 64))
          go_wp2_with fail
          refine (letterI _ (X / 262144) w (by omega) (by omega)).mono ?_
          rintro e w2 ⟨rfl, rfl⟩
          go_wp2_with fail
          refine (letterI _ (X / 4096 % 64) w2 (by omega) (by omega)).mono ?_
          rintro e w3 ⟨rfl, rfl⟩
          go_wp2_with fail
          refine (letterI _ (X / 64 % 64) w3 (by omega) (by omega)).mono ?_
          rintro e w4 ⟨rfl, rfl⟩
          go_wp2_with fail
          go_round
          case rel => exact ⟨k + 3, _, by omega, by go_num, congrArg Value.string HJ.out, HF.out⟩
          case measure => simp [intOf]; omega
      · have h1' : ¬ (k : Int) + 1 < s.length := by omega
        have h2' : ¬ (k : Int) + 2 < s.length := by omega
        rw [dif_neg h1, dif_neg (by omega)] at hv
        have hvX : (s[k].toNat : Int) * 65536 = X := by omega
        have HF := hid (HN.out _ (by rw [hf, if_neg (by omega), if_neg (by omega)]))
        clear hv hf HN HD
        have HJ := hid (join4 d (let64 (X / 262144)) (let64 (X / 4096 % 64)) (61) (61))
        have z1 := len1 (let64 (X / 262144))
        have z2 := len1 (let64 (X / 4096 % 64))
        go_wp2_with fail
        refine (letterI _ (X / 262144) w (by omega) (by omega)).mono ?_
        rintro e w2 ⟨rfl, rfl⟩
        go_wp2_with fail
        refine (letterI _ (X / 4096 % 64) w2 (by omega) (by omega)).mono ?_
        rintro e w3 ⟨rfl, rfl⟩
        go_wp2_with fail
        go_round
        case rel => exact ⟨k + 3, _, by omega, by go_num, congrArg Value.string HJ.out, HF.out⟩
        case measure => simp [intOf]; omega
    · have hlt' : ¬ (k : Int) < s.length := by omega
      have HA : Hid (d = b64 s) := by
        have := HD.out
        rw [List.drop_eq_nil_of_le (by omega), b64_nil, List.append_nil] at this
        exact this
      go_wp2_with fail
      go_ret
      rw [HA.out]
      exact ⟨rfl, rfl⟩
end Go.Proofs.YtjmjeiegbkfdbaaDoor
