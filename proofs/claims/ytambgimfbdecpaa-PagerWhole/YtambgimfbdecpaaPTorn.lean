/- What this text holds: two roots' sectors, cut. -/
import Derived.Test.YtambgimfbdecpaaPBoth
namespace Go.Proofs.Ytambgimfbdecpaa
open Go.RowKit
set_option linter.unusedVariables false

theorem root_take (g : Int) (c : List Int) : (rootL g c).take 8 = numB 8 g := by
  unfold rootL
  rw [List.take_append_of_le_length (by rw [numB_length]; omega), List.take_of_length_le (by rw [numB_length]; omega)]
theorem root_drop (g : Int) (c : List Int) (h : c.length ≤ 494) : (rootL g c).drop 504 = numB 8 g := by
  have e : rootL g c = (numB 8 g ++ (numB 2 c.length ++ (c ++ rep (494 - c.length) 0))) ++ numB 8 g := by
    unfold rootL
    simp only [List.append_assoc]
  rw [e, List.drop_append, List.drop_of_length_le (by simp [numB_length, rep_length]; omega), List.nil_append]
  rw [show 504 - (numB 8 g ++ (numB 2 c.length ++ (c ++ rep (494 - c.length) 0))).length = 0 by simp [numB_length, rep_length]; omega, List.drop_zero]
theorem isRoot_ends {z : List Int} (h : isRoot z) : z.take 8 = z.drop 504 := by
  have h1 := root_take (rgenOf z) (rconOf z)
  have h2 := root_drop (rgenOf z) (rconOf z) (by have := h.2.2.1; omega)
  rw [h.2.2.2] at h1 h2
  rw [h1, h2]
theorem split_at (z : List Int) (n : Nat) : z = z.take n ++ z.drop n := (List.take_append_drop n z).symm

/-- The first bytes of the one, and the rest of the other. -/
theorem torn_one {a b : Int} {S T : List Int} (ha : okGen a) (hb : okGen b) (hS : S.length ≤ 490) (hT : T.length ≤ 490) (hab : a ≠ b) (k : Nat) (hk : k ≤ 512)
    (h : isRoot ((rootL a S).take k ++ (rootL b T).drop k)) : (rootL a S).take k ++ (rootL b T).drop k = rootL a S ∨ (rootL a S).take k ++ (rootL b T).drop k = rootL b T := by
  have hX := rootL_length a S (by omega)
  have hY := rootL_length b T (by omega)
  have x1 := root_take a S
  have x2 := root_drop a S (by omega)
  have y1 := root_take b T
  have y2 := root_drop b T (by omega)
  have he := isRoot_ends h
  generalize hXX : rootL a S = X at *
  generalize hYY : rootL b T = Y at *
  have hlt : (X.take k).length = k := by rw [List.length_take]; omega
  by_cases c1 : k < 8
  · right
    have e1 : (X.take k ++ Y.drop k).drop 504 = Y.drop 504 := by
      rw [List.drop_append, List.drop_of_length_le (by omega), List.nil_append, hlt, List.drop_drop]
      congr 1
      omega
    have e2 : (X.take k ++ Y.drop k).drop 8 = Y.drop 8 := by
      rw [List.drop_append, List.drop_of_length_le (by omega), List.nil_append, hlt, List.drop_drop]
      congr 1
      omega
    rw [e1, y2, ← y1] at he
    rw [split_at (X.take k ++ Y.drop k) 8, he, e2, ← split_at]
  · by_cases c2 : 504 < k
    · left
      have e1 : (X.take k ++ Y.drop k).take 8 = X.take 8 := by
        rw [List.take_append_of_le_length (by omega), List.take_take, Nat.min_eq_left (by omega)]
      have e2 : (X.take k ++ Y.drop k).take 504 = X.take 504 := by
        rw [List.take_append_of_le_length (by omega), List.take_take, Nat.min_eq_left (by omega)]
      rw [e1, x1, ← x2] at he
      rw [split_at (X.take k ++ Y.drop k) 504, e2, ← he, ← split_at]
    · exfalso
      have e1 : (X.take k ++ Y.drop k).take 8 = X.take 8 := by
        rw [List.take_append_of_le_length (by omega), List.take_take, Nat.min_eq_left (by omega)]
      have e2 : (X.take k ++ Y.drop k).drop 504 = Y.drop 504 := by
        rw [List.drop_append, List.drop_of_length_le (by omega), List.nil_append, hlt, List.drop_drop]
        congr 1
        omega
      rw [e1, e2, x1, y2] at he
      have v1 := val_numB' a 8 (by have := ha.1; omega) (by have := ha.2; omega)
      have v2 := val_numB' b 8 (by have := hb.1; omega) (by have := hb.2; omega)
      rw [he, v2] at v1
      exact hab v1.symm
theorem cut_range (cut : Int) : ∃ k : Nat, k ≤ 512 ∧ (wrap64 (wrap64 (cut.tmod 513 + 512) + 1)).tmod 513 = (k : Int) := by
  have h1 := Int.tmod_lt_of_pos cut (show (0 : Int) < 513 by decide)
  have h2 := Int.lt_tmod_of_pos cut (show (0 : Int) < 513 by decide)
  rw [wrap64_fits (cut.tmod 513 + 512) (by omega) (by omega), wrap64_fits _ (by omega) (by omega), Int.tmod_eq_emod_of_nonneg (by omega)]
  exact ⟨((cut.tmod 513 + 512 + 1) % 513).toNat, by omega, by omega⟩
end Go.Proofs.Ytambgimfbdecpaa
