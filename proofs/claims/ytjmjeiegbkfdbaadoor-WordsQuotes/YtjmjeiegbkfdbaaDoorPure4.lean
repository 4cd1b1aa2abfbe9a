/- What this text holds: bytes of which each is written as = and two digits, as plain facts. No program in it. -/
import Derived.Test.YtjmjeiegbkfdbaaDoorPure3
namespace Go.Proofs.YtjmjeiegbkfdbaaDoor
set_option linter.unusedVariables false
set_option linter.unusedSimpArgs false

def bigD : Bs := [48, 49, 50, 51, 52, 53, 54, 55, 56, 57, 65, 66, 67, 68, 69, 70]
def dig (b : Bool) (n : Nat) : UInt8 := (if b then hexL else bigD).getD n 0
theorem dig_facts : ∀ (b : Bool) (n : Fin 16), hex (dig b n.val) = n.val ∧ dig b n.val ≠ 13 ∧ dig b n.val ≠ 10 ∧ plain (dig b n.val) = true := by decide +kernel
def quo (b : Bool) (s : Bs) : Bs := s.flatMap fun c => [61, dig b (c.toNat / 16), dig b (c.toNat % 16)]
theorem quo_cons (b : Bool) (c : UInt8) (s : Bs) : quo b (c :: s) = 61 :: dig b (c.toNat / 16) :: dig b (c.toNat % 16) :: quo b s := by simp [quo]
theorem quo_len (b : Bool) (s : Bs) : (quo b s).length = 3 * s.length := by
  induction s with
  | nil => rfl
  | cons c s ih => rw [quo_cons]; simp [ih]; omega
theorem quo_next (b : Bool) (s : Bs) (k : Nat) (hk : k < s.length) : quo b (s.take (k + 1)) = quo b (s.take k) ++ [61] ++ [dig b (s[k].toNat / 16)] ++ [dig b (s[k].toNat % 16)] := by
  unfold quo
  rw [List.take_succ_eq_append_getElem hk, List.flatMap_append]
  simp
theorem dig_at (b : Bool) (c : UInt8) : coded [61, dig b (c.toNat / 16), dig b (c.toNat % 16)] = some c ∧ dig b (c.toNat / 16) ≠ 13 ∧ dig b (c.toNat / 16) ≠ 10 := by
  have h8 := c.toNat_lt
  have f1 := dig_facts b ⟨c.toNat / 16, by omega⟩
  have f2 := dig_facts b ⟨c.toNat % 16, by omega⟩
  refine ⟨?_, f1.2.1, f1.2.2.1⟩
  unfold coded
  simp only [f1.1, f2.1]
  rw [if_pos (by refine ⟨trivial, ?_, ?_⟩ <;> omega)]
  congr 1
  apply ofNat_eq
  simp only [Int.toNat_natCast]
  omega
theorem stepC_quo (b : Bool) (c : UInt8) (r : Bs) : stepC (61 :: dig b (c.toNat / 16) :: dig b (c.toNat % 16) :: r) = ([c], 3) := by
  unfold stepC
  simp only [List.take_succ_cons, List.take_zero]
  rw [(dig_at b c).1]
theorem unq_quo (b : Bool) (r : Bs) : ∀ s : Bs, unq (quo b s ++ r) = s ++ unq r
  | [] => rfl
  | c :: s => by
    have h := dig_at b c
    have e : stepU (61 :: dig b (c.toNat / 16) :: dig b (c.toNat % 16) :: (quo b s ++ r)) = ([c], 3) := by
      unfold stepU
      rw [if_neg (by simp [pre, h.2.1]), if_neg (by simp [pre, h.2.2])]
      exact stepC_quo b c _
    rw [quo_cons]
    simp only [List.cons_append]
    rw [unq_step _ (by simp), e]
    simp only [List.drop_succ_cons, List.drop_zero]
    rw [unq_quo b r s]
    rfl
theorem und_quo (b : Bool) : ∀ s : Bs, und (quo b s) = s
  | [] => rfl
  | c :: s => by
    have e : stepQ (61 :: dig b (c.toNat / 16) :: dig b (c.toNat % 16) :: quo b s) = ([c], 3) := by
      unfold stepQ
      rw [if_neg (by simp [pre])]
      exact stepC_quo b c _
    rw [quo_cons, und_step _ (by simp), e]
    simp only [List.drop_succ_cons, List.drop_zero]
    rw [und_quo b s]
    rfl
theorem quo_plain (b : Bool) (s : Bs) : ∀ c ∈ quo b s, plain c = true := by
  intro c hc
  unfold quo at hc
  obtain ⟨a, _, h⟩ := List.mem_flatMap.1 hc
  have h8 := a.toNat_lt
  simp only [List.mem_cons, List.not_mem_nil, or_false] at h
  rcases h with rfl | rfl | rfl
  · decide
  · exact (dig_facts b ⟨a.toNat / 16, by omega⟩).2.2.2
  · exact (dig_facts b ⟨a.toNat % 16, by omega⟩).2.2.2
theorem un1 (b : Bool) (s : Bs) : unq (quo b s) = s := by
  have := unq_quo b [] s
  rw [List.append_nil, show unq [] = [] from rfl, List.append_nil] at this
  exact this
theorem un2 (b : Bool) (s : Bs) : unq (quo b s ++ [61, 13, 10] ++ quo b s ++ [61, 10]) = s ++ s := by
  have e1 : ∀ r, stepU (61 :: 13 :: 10 :: r) = ([], 3) := by intro r; unfold stepU; rw [if_pos (by simp [pre])]
  have e2 : stepU [61, 10] = ([], 2) := by decide +kernel
  rw [List.append_assoc, List.append_assoc, unq_quo b _ s]
  congr 1
  rw [show ([61, 13, 10] : Bs) ++ (quo b s ++ [61, 10]) = 61 :: 13 :: 10 :: (quo b s ++ [61, 10]) from rfl, unq_step _ (by simp), e1]
  simp only [List.drop_succ_cons, List.drop_zero, List.nil_append]
  rw [unq_quo b _ s, unq_step _ (by simp), e2]
  simp only [List.drop_succ_cons, List.drop_zero, List.nil_append]
  rw [show unq [] = [] from rfl, List.append_nil]
def qu8 (t : Bs) : Bs := ew [117, 116, 102, 45, 56] 81 t
def qi1 (t : Bs) : Bs := ew [105, 115, 111, 45, 56, 56, 53, 57, 45, 49] 81 t
theorem w8 (b : Bool) (s : Bs) : wordsP false (joined [qu8 (quo b s)]) = s := by
  rw [joined1]
  refine words_ew1 _ _ s _ _ (by decide) (quo_plain b s) ?_
  unfold says
  rw [if_pos (.inl (by decide))]
  unfold written
  rw [if_neg (by decide), if_pos (by decide), und_quo]
theorem w1 (b : Bool) (s : Bs) : wordsP false (joined [qi1 (quo b s)]) = latin s := by
  rw [joined1]
  refine words_ew1 _ _ (latin s) _ _ (by decide) (quo_plain b s) ?_
  unfold says
  rw [if_neg (by decide), if_pos (by decide)]
  unfold written
  rw [if_neg (by decide), if_pos (by decide), und_quo]
  rfl
end Go.Proofs.YtjmjeiegbkfdbaaDoor
