/- What this text holds: numbers are read as they were told. -/
import Derived.Test.YtpjcpdnolcehcaaGreatDoorP2
import Derived.Lib.ItoaNum
namespace Go.Proofs.YtpjcpdnolcehcaaGreatDoor
open Go.RowKit Go.Lib
set_option linter.unusedVariables false
set_option linter.unusedSimpArgs false

def mi : Int := 9223372036854775807
def valF (n : Nat) (l : Bs) : Nat := l.foldl (fun n c => 10 * n + (c.toNat - 48)) n
def valN (l : Bs) : Nat := valF 0 l
theorem valF_ge : ∀ (l : Bs) (n : Nat), n ≤ valF n l
  | [], n => Nat.le_refl _
  | c :: l, n => by
    have := valF_ge l (10 * n + (c.toNat - 48))
    show n ≤ valF (10 * n + (c.toNat - 48)) l
    omega
theorem dec_small {n : Nat} (h : n < 10) : decDigits n = [UInt8.ofNat (48 + n)] := Go.Lib.decDigits_one h
theorem dec_big {n : Nat} (h : ¬ n < 10) : decDigits n = decDigits (n / 10) ++ [UInt8.ofNat (48 + n % 10)] := by
  rw [decDigits, dif_neg h]
theorem dg_of {d : Nat} (h : d < 10) : (UInt8.ofNat (48 + d)).toNat = 48 + d := by
  simp; omega
theorem dec_all (n : Nat) : ∀ c ∈ decDigits n, dgB c = true := by
  induction n using Nat.strongRecOn with
  | ind n ih =>
    intro c hc
    by_cases h : n < 10
    · rw [dec_small h] at hc
      simp only [List.mem_singleton] at hc
      subst hc
      unfold dgB
      rw [dg_of h]; simp; omega
    · rw [dec_big h] at hc
      rcases List.mem_append.1 hc with hc | hc
      · exact ih (n / 10) (by omega) c hc
      · simp only [List.mem_singleton] at hc
        subst hc
        unfold dgB
        rw [dg_of (by omega)]; simp; omega
theorem dec_ne (n : Nat) : decDigits n ≠ [] := by
  by_cases h : n < 10
  · rw [dec_small h]; simp
  · rw [dec_big h]; simp
theorem dec_val (n : Nat) : valN (decDigits n) = n := by
  induction n using Nat.strongRecOn with
  | ind n ih =>
    by_cases h : n < 10
    · rw [dec_small h]
      simp only [valN, valF, List.foldl_cons, List.foldl_nil]
      rw [dg_of h]; omega
    · rw [dec_big h]
      have := ih (n / 10) (by omega)
      unfold valN valF at this ⊢
      rw [List.foldl_append, this]
      simp only [List.foldl_cons, List.foldl_nil]
      rw [dg_of (by omega)]; omega
theorem dec_len : ∀ (k n : Nat), n < 10 ^ (k + 1) → (decDigits n).length ≤ k + 1
  | 0, n, h => by rw [dec_small (by omega)]; simp
  | k + 1, n, h => by
    by_cases h1 : n < 10
    · rw [dec_small h1]; simp
    · rw [dec_big h1]
      have := dec_len k (n / 10) (by rw [Nat.pow_succ] at h; omega)
      simp; omega
theorem parse_digits : ∀ (l : Bs) (acc : Nat), acc < 18446744073709551616 → l.all dgB = true → Go.Lib.parseUint10 acc l = if valF acc l < 18446744073709551616 then .ok (valF acc l) else .range
  | [], acc, h, _ => by simp [Go.Lib.parseUint10, valF, h]
  | c :: r, acc, h, ha => by
    simp only [List.all_cons, Bool.and_eq_true] at ha
    have hc : 48 ≤ c.toNat ∧ c.toNat ≤ 57 := by have := ha.1; unfold dgB at this; simpa using this
    have hv : valF acc (c :: r) = valF (10 * acc + (c.toNat - 48)) r := rfl
    have hge := valF_ge r (10 * acc + (c.toNat - 48))
    simp only [Go.Lib.parseUint10]
    rw [if_pos hc, hv]
    by_cases h1 : 1844674407370955162 ≤ acc
    · rw [if_pos h1, if_neg (by omega)]
    · rw [if_neg h1]
      by_cases h2 : 18446744073709551616 ≤ acc * 10 + (c.toNat - 48)
      · rw [if_pos h2, if_neg (by omega)]
      · rw [if_neg h2, parse_digits r _ (by omega) ha.2, Nat.mul_comm acc 10]
theorem atoi_digits {l : Bs} (hne : l ≠ []) (ha : l.all dgB = true) : Go.Lib.atoiAll l = (if (valN l : Int) ≤ mi then .ok (valN l : Int) else .range) ∧ Go.Lib.atoiSat l = mi := by
  cases l with
  | nil => exact absurd rfl hne
  | cons c r =>
    have hc : 48 ≤ c.toNat ∧ c.toNat ≤ 57 := by
      simp only [List.all_cons, Bool.and_eq_true] at ha
      have := ha.1; unfold dgB at this; simpa using this
    have hp := parse_digits (c :: r) 0 (by omega) ha
    refine ⟨?_, ?_⟩
    · unfold Go.Lib.atoiAll
      simp only
      rw [if_neg (by omega)]
      unfold Go.Lib.parseMag
      rw [if_neg (by simp), hp]
      show _ = if (valF 0 (c :: r) : Int) ≤ mi then Go.Lib.NumEnd.ok (valF 0 (c :: r) : Int) else .range
      generalize valF 0 (c :: r) = v
      unfold mi
      by_cases h1 : v < 18446744073709551616
      · rw [if_pos h1]
        simp only
        by_cases h2 : 9223372036854775808 ≤ v
        · rw [if_pos ⟨by omega, h2⟩, if_neg (by omega)]
        · rw [if_neg (by omega), if_neg (by omega), if_neg (by omega), if_pos (by omega)]
      · rw [if_neg h1, if_neg (by omega)]
    · unfold Go.Lib.atoiSat
      rw [if_neg (by simp; omega)]
      rfl
theorem decP_nat {n : Int} (h : 0 ≤ n) : decP n = decDigits n.toNat := by
  obtain ⟨m, rfl⟩ := Int.eq_ofNat_of_zero_le h
  unfold decP
  rw [itoa_nonneg]
  simp
theorem decP_all {n : Int} (h : 0 ≤ n) : (decP n).all dgB = true := by
  rw [decP_nat h, List.all_eq_true]
  exact dec_all _
theorem decP_ne {n : Int} (h : 0 ≤ n) : decP n ≠ [] := by rw [decP_nat h]; exact dec_ne _
theorem numP_dec {n : Int} (h : 0 ≤ n) (h2 : n ≤ 9223372036854775807) : numP (decP n) = some n := by
  have := (atoi_digits (decP_ne h) (decP_all h)).1
  unfold numP
  rw [this, decP_nat h, dec_val, if_pos (by unfold mi; omega)]
  simp
  omega
theorem decP_len {n : Int} (h : 0 ≤ n) (h2 : n ≤ 9223372036854775807) : (decP n).length ≤ 20 := by
  rw [decP_nat h]
  exact dec_len 19 _ (by omega)
end Go.Proofs.YtpjcpdnolcehcaaGreatDoor
