/- What this text holds: the document's letters of base 64, and its Base64. -/
import Derived.Test.YtjmjeiegbkfdbaaDoorR2
namespace Go.Proofs.YtjmjeiegbkfdbaaDoor
open Go.RowKit
set_option linter.unusedVariables false
set_option linter.unusedSimpArgs false

theorem abc_cut (n : Nat) (h : n < 64) : abcS.extract n (n + 1) = str [let64 n] := by
  rw [Go.Lib.extract_eq, abc_data, show n + 1 - n = 1 by omega, List.drop_eq_getElem_cons (by exact h)]
  unfold let64
  rw [List.getD_eq_getElem?_getD, List.getElem?_eq_getElem (by exact h)]
  rfl
set_option maxRecDepth 100000 in
set_option maxHeartbeats 1000000 in
theorem letter_any (n : Nat) (w : World) (h : n < 64) : Calls Tryd.prog 31 #[.int .i64 n] w fun e w' => e = .returned (.string (str [let64 n])) ∧ w' = w := by
  have HC := hid (abc_cut n h)
  have h' : (n : Int) < 64 := by omega
  go_enter Tryd.func31, Tryd.ntmps31
  go_wp2_with fail
  go_ret
  rw [← HC.out]
  exact ⟨rfl, rfl⟩

theorem let_six_all : ∀ m : Fin 256, ∀ n : Fin 64, six (UInt8.ofNat m.val) = n.val → let64 n.val = UInt8.ofNat m.val := by decide +kernel
theorem let_six (c : UInt8) (n : Nat) (h : six c = n) : let64 n = c := by
  have hr := six_lt c
  have := let_six_all ⟨c.toNat, c.toNat_lt⟩ ⟨n, by omega⟩
  simp only [u8_of] at this
  exact this h
set_option maxRecDepth 100000 in
set_option maxHeartbeats 1000000 in
theorem rdigit_any (c : UInt8) (w : World) : Calls Tryd.prog 29 #[.int .u8 c.toNat] w fun e w' => e = .returned (.int .i64 (six c)) ∧ w' = w := by
  go_enter Tryd.func29, Tryd.ntmps29
  go_wp2_with fail
  go_loop [3] (fun i => ∃ k : Nat, k ≤ 64 ∧ i = .int .i64 k ∧ ∀ j, j < k → let64 j ≠ c) (fun i => 64 - (intOf i).toNat)
  case atStart => exact ⟨0, by omega, rfl, fun j hj => by omega⟩
  case round =>
    obtain ⟨k, hk, rfl, hall⟩ := hrel
    have HA := hid hall
    clear hall
    by_cases hlt : k < 64
    · have hlt' : (k : Int) < 64 := by omega
      have C := letter_any k w hlt
      have hsz : (str [let64 k]).size = 1 := rfl
      have g : ((str [let64 k])[0]'(by rw [hsz]; omega)) = let64 k := rfl
      by_cases he : let64 k = c
      · have n1 : (((let64 k).toNat : Int) == (c.toNat : Int)) = true := by rw [he]; simp
        have HS : Hid (six c = k) := by rw [Hid, ← he]; exact six_let' k hlt
        clear he
        go_wp2_with fail
        refine C.mono ?_
        clear C
        rintro e w2 ⟨rfl, rfl⟩
        go_wp2_with fail
        go_ret
        rw [HS.out]
        exact ⟨rfl, rfl⟩
      · have n1 : (((let64 k).toNat : Int) == (c.toNat : Int)) = false := by
          have : (let64 k).toNat ≠ c.toNat := fun h => he (UInt8.toNat_inj.1 h)
          rw [beq_eq_false_iff_ne]; omega
        have HN : Hid (∀ j, j < k + 1 → let64 j ≠ c) := by
          intro j hj
          by_cases hjk : j = k
          · subst hjk; exact he
          · exact HA.out j (by omega)
        clear he
        go_wp2_with fail
        refine C.mono ?_
        clear C
        rintro e w2 ⟨rfl, rfl⟩
        go_wp2_with fail
        go_round
        case rel => exact ⟨k + 1, by omega, by go_num, HN.out⟩
        case measure => simp [intOf]; omega
    · have hlt' : ¬ (k : Int) < 64 := by omega
      have HS : Hid (six c = -1) := by
        have hr := six_lt c
        by_cases h0 : 0 ≤ six c
        · obtain ⟨n, hn⟩ := Int.eq_ofNat_of_zero_le h0
          have := let_six c n hn
          exact absurd this (HA.out n (by omega))
        · rw [Hid]; omega
      go_wp2_with fail
      go_ret
      rw [HS.out]
      exact ⟨rfl, rfl⟩

theorem four_is (l : Bs) (h : l ≠ []) : four (l.take 3) = [let64 (val (l.take 3) / 262144), let64 (val (l.take 3) / 4096 % 64)] ++ [if 1 < l.length then let64 (val (l.take 3) / 64 % 64) else 61] ++ [if 2 < l.length then let64 (val (l.take 3) % 64) else 61] := by
  rcases cases3 l with rfl | ⟨a, rfl⟩ | ⟨a, b, rfl⟩ | ⟨a, b, c, t, rfl⟩
  · exact absurd rfl h
  · simp only [List.take_succ_cons, List.take_nil]; rw [four_one]; simp
  · simp only [List.take_succ_cons, List.take_nil]; rw [four_two]; simp
  · simp only [List.take_succ_cons, List.take_zero]; rw [four_three]; simp
theorem val_is (s : Bs) (k : Nat) (h : k < s.length) : val ((s.drop k).take 3) = s[k].toNat * 65536 + (if h1 : k + 1 < s.length then s[k + 1].toNat else 0) * 256 + (if h2 : k + 2 < s.length then s[k + 2].toNat else 0) := by
  have e0 : ((s.drop k).take 3).getD 0 0 = s[k] := by
    rw [List.getD_eq_getElem?_getD, List.getElem?_take, if_pos (by omega), List.getElem?_drop, Nat.add_zero, List.getElem?_eq_getElem h]; rfl
  have e1 : (((s.drop k).take 3).getD 1 0).toNat = if h1 : k + 1 < s.length then s[k + 1].toNat else 0 := by
    rw [List.getD_eq_getElem?_getD, List.getElem?_take, if_pos (by omega), List.getElem?_drop]
    split
    · next h1 => rw [List.getElem?_eq_getElem h1]; rfl
    · next h1 => rw [List.getElem?_eq_none (by omega)]; rfl
  have e2 : (((s.drop k).take 3).getD 2 0).toNat = if h2 : k + 2 < s.length then s[k + 2].toNat else 0 := by
    rw [List.getD_eq_getElem?_getD, List.getElem?_take, if_pos (by omega), List.getElem?_drop]
    split
    · next h1 => rw [List.getElem?_eq_getElem h1]; rfl
    · next h1 => rw [List.getElem?_eq_none (by omega)]; rfl
  unfold val
  rw [e0, e1, e2]
end Go.Proofs.YtjmjeiegbkfdbaaDoor
