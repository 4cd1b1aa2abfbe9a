/- What this text holds: plain facts of marks, for the document's way of reading one. -/
import Derived.Test.YtikcbgoocljgnaaDoorP2
namespace Go.Proofs.YtikcbgoocljgnaaDoor
set_option linter.unusedVariables false
set_option linter.unusedSimpArgs false

theorem dig_iff (c : UInt8) : (48 ≤ c.toNat ∧ c.toNat ≤ 57) ↔ c ∈ dgs := by
  constructor
  · rintro ⟨h1, h2⟩
    have e : c = UInt8.ofNat (48 + (c.toNat - 48)) := by
      apply UInt8.toNat_inj.1
      simp
      omega
    rw [e]
    exact (dig_mem (c.toNat - 48) (by omega)).1
  · intro h
    simp only [dgs, List.mem_cons, List.not_mem_nil, or_false] at h
    rcases h with rfl | rfl | rfl | rfl | rfl | rfl | rfl | rfl | rfl | rfl <;> decide
theorem snoc_take (l : Bs) (i : Nat) (h : i < l.length) : l.take (i + 1) = l.take i ++ [l[i]] := List.take_succ_eq_append_getElem h
/-- What is cut off are the digits at the end. -/
theorem trim_at (l : Bs) (K i : Nat) (hK : K ≤ l.length) (hi : i ≤ K) (hd : ∀ j, i ≤ j → j < K → ∀ c, l[j]? = some c → c ∈ dgs) (he : i = 0 ∨ ∃ c, l[i - 1]? = some c ∧ c ∉ dgs) : trimD (l.take K) = l.take i := by
  have e1 : l.take K = l.take i ++ (l.take K).drop i := by
    have : l.take i = (l.take K).take i := by rw [List.take_take, Nat.min_eq_left hi]
    rw [this, List.take_append_drop]
  have hr : ∀ c ∈ (l.take K).drop i, c ∈ dgs := by
    intro c hc
    obtain ⟨j, hj, rfl⟩ := List.getElem_of_mem hc
    rw [List.length_drop, List.length_take] at hj
    refine hd (i + j) (by omega) (by omega) _ ?_
    rw [List.getElem_drop, List.getElem_take]
    exact List.getElem?_eq_getElem (by omega)
  rw [e1]
  rcases he with e | ⟨c, hc, hn⟩
  · subst e
    rw [List.take_zero, List.nil_append]
    unfold trimD Go.Lib.trimRightS
    rw [← List.append_nil ((l.take K).drop 0).reverse, List.dropWhile_append_of_pos (fun c hc => by simpa using hr c (List.mem_reverse.1 hc))]
    rfl
  · have hlt : i - 1 < l.length := (List.getElem?_eq_some_iff.1 hc).1
    cases i with
    | zero =>
      rw [List.take_zero, List.nil_append]
      unfold trimD Go.Lib.trimRightS
      rw [← List.append_nil ((l.take K).drop 0).reverse, List.dropWhile_append_of_pos (fun c hc => by simpa using hr c (List.mem_reverse.1 hc))]
      rfl
    | succ i =>
      have hcc : l[i]'hlt = c := (List.getElem?_eq_some_iff.1 hc).2
      rw [snoc_take l i hlt, hcc]
      exact trimD_app _ c _ hn hr
theorem mark_none_of (l : Bs) (K i : Nat) (hin : sufT (sufT l 125) 43 = l.take K) (htr : trimD (l.take K) = l.take i) (hK : K ≤ l.length) (hi : i ≤ K) (h : i = K ∨ 6 < K - i ∨ i = 0 ∨ ∃ c, l[i - 1]? = some c ∧ c ≠ 123) : markP l = none := by
  unfold markP
  rw [hin, htr, if_neg]
  rintro ⟨_, h2, h3, h4⟩
  rw [List.length_take, Nat.min_eq_left (by omega)] at h3 h4
  rw [List.length_drop, List.length_take, Nat.min_eq_left hK] at h4
  rcases h with e | e | e | ⟨c, hc, e⟩
  · apply h3; rw [e]; simp
  · omega
  · subst e
    rw [List.take_zero] at h2
    exact absurd h2 (by decide)
  · have hlt : i - 1 < l.length := (List.getElem?_eq_some_iff.1 hc).1
    cases i with
    | zero => rw [List.take_zero] at h2; exact absurd h2 (by decide)
    | succ i =>
      have hcc : l[i]'hlt = c := (List.getElem?_eq_some_iff.1 hc).2
      rw [snoc_take l i hlt, hcc, sufB_other _ e] at h2
      cases h2
theorem inner_plus (m : Bs) : sufT (sufT (m ++ [43] ++ [125]) 125) 43 = (m ++ [43] ++ [125]).take m.length := by
  rw [sufT_snoc, sufT_snoc, List.append_assoc, List.take_left]
theorem inner_no (m : Bs) (h : m.getLast? ≠ some 43) : sufT (sufT (m ++ [125]) 125) 43 = (m ++ [125]).take m.length := by
  rw [sufT_snoc, sufT_no h, List.take_left]
end Go.Proofs.YtikcbgoocljgnaaDoor
