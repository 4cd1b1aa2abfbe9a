/- What this text holds: what a node that was cut is: both parts right, joined again, not too small. -/
import Derived.Test.YtkipigbfbhecjaaN37
namespace Go.Proofs.Ytkipigbfbhecjaa
open Go.RowKit
set_option linter.unusedVariables false
set_option linter.unusedSimpArgs false

theorem rise_iff {keys : List ByteArray} : risingB keys = true ↔ ∀ i (h : i < keys.length), keys[i].size ≤ 60 ∧ (0 < i → lt (keys.getD (i - 1) ByteArray.empty) keys[i] = true) := by
  unfold risingB
  rw [List.all_eq_true]
  constructor
  · intro h i hi
    have := h i (List.mem_range.2 hi)
    unfold keyOk at this
    rw [List.getD_eq_getElem?_getD, List.getElem?_eq_getElem hi, Option.getD_some, Bool.and_eq_true, decide_eq_true_eq, Bool.or_eq_true, decide_eq_true_eq] at this
    exact ⟨this.1, fun h0 => this.2.resolve_left (by omega)⟩
  · intro h i hi
    have hi := List.mem_range.1 hi
    unfold keyOk
    rw [List.getD_eq_getElem?_getD (i := i), List.getElem?_eq_getElem hi, Option.getD_some, Bool.and_eq_true, decide_eq_true_eq, Bool.or_eq_true, decide_eq_true_eq]
    refine ⟨(h i hi).1, ?_⟩
    by_cases h0 : i = 0
    · exact .inl h0
    · exact .inr ((h i hi).2 (by omega))
theorem getD_take {α : Type} {l : List α} {i j : Nat} {d : α} (h : j < i) : (l.take i).getD j d = l.getD j d := by
  rw [List.getD_eq_getElem?_getD, List.getD_eq_getElem?_getD, List.getElem?_take, if_pos h]
theorem getD_drop {α : Type} {l : List α} {i j : Nat} {d : α} : (l.drop i).getD j d = l.getD (i + j) d := by
  rw [List.getD_eq_getElem?_getD, List.getD_eq_getElem?_getD, List.getElem?_drop]
theorem rise_take {keys : List ByteArray} (h : risingB keys = true) (k : Nat) : risingB (keys.take k) = true := by
  rw [rise_iff] at h ⊢
  intro i hi
  have hi' : i < keys.length ∧ i < k := by rw [List.length_take] at hi; omega
  rw [List.getElem_take, getD_take (by omega)]
  exact h i hi'.1
theorem rise_drop {keys : List ByteArray} (h : risingB keys = true) (k : Nat) : risingB (keys.drop k) = true := by
  rw [rise_iff] at h ⊢
  intro i hi
  have hi' : k + i < keys.length := by rw [List.length_drop] at hi; omega
  rw [List.getElem_drop, getD_drop]
  have := h (k + i) hi'
  exact ⟨this.1, fun h0 => by rw [show k + (i - 1) = k + i - 1 by omega]; exact this.2 (by omega)⟩
theorem cutA_leaf (n : Nd) (i : Nat) : (cutA n i).leaf = n.leaf := by unfold cutA; cases h : n.leaf <;> simp
theorem cutB_leaf (n : Nd) (i : Nat) : (cutB n i).leaf = n.leaf := by unfold cutB; cases h : n.leaf <;> simp
theorem cutA_keys (n : Nd) (i : Nat) : (cutA n i).keys = n.keys.take i := by unfold cutA; cases h : n.leaf <;> simp
/-- Where the second part begins. -/
def fromB (n : Nd) (i : Nat) : Nat := if n.leaf then i else i + 1
theorem cutB_keys (n : Nd) (i : Nat) : (cutB n i).keys = n.keys.drop (fromB n i) := by unfold cutB fromB; cases h : n.leaf <;> simp
theorem cutA_keyN (n : Nd) (i j : Nat) (h : j < i) : keyN (cutA n i) j = keyN n j := by
  rw [keyN_eq, keyN_eq, cutA_leaf]
  unfold Nd.key
  rw [cutA_keys, getD_take h]
  cases hl : n.leaf with
  | false => simp
  | true =>
    simp only [if_true]
    unfold Nd.item cutA
    rw [hl, if_pos rfl]
    rw [getD_take h]
theorem cutB_keyN (n : Nd) (i j : Nat) : keyN (cutB n i) j = keyN n (fromB n i + j) := by
  rw [keyN_eq, keyN_eq, cutB_leaf]
  unfold Nd.key
  rw [cutB_keys, getD_drop]
  cases hl : n.leaf with
  | false => simp
  | true =>
    simp only [if_true]
    unfold Nd.item cutB fromB
    rw [hl, if_pos rfl, if_pos rfl]
    rw [getD_drop]
theorem cutA_size (n : Nd) (i : Nat) : ∀ j, j ≤ i → sizeN (cutA n i) j = sizeN n j
  | 0, _ => by rw [sizeN_zero, sizeN_zero, cutA_leaf]
  | j + 1, h => by rw [sizeN_succ, sizeN_succ, cutA_size n i j (by omega), cutA_keyN n i j (by omega)]
theorem cutB_size (n : Nd) (i : Nat) : ∀ j, sizeN (cutB n i) j + sizeN n (fromB n i) = sizeN n (fromB n i + j) + sizeN n 0
  | 0 => by rw [sizeN_zero, sizeN_zero, cutB_leaf, Nat.add_zero]; omega
  | j + 1 => by
    have := cutB_size n i j
    rw [sizeN_succ, ← Nat.add_assoc, sizeN_succ, cutB_keyN]
    omega
theorem keyN_other {n : Nd} (r : Ri n) (hl : n.leaf = false) (j : Nat) (h : j < n.keys.length) : keyN n j ≤ 65 := by
  have := r.key_size j h
  rw [keyN_eq, hl]
  simp
  omega
/-- What two nodes joined are. -/
def joinN (a : Nd) (key : ByteArray) (b : Nd) : Nd := if a.leaf then ⟨true, a.keys ++ b.keys, a.items ++ b.items, []⟩ else ⟨false, a.keys ++ ([key] ++ b.keys), [], a.kids ++ b.kids⟩

theorem split_room {n : Nd} (h : splitB n = true) : Ri n ∧ leastN n ≤ n.keys.length := by
  unfold splitB at h
  rw [Bool.and_eq_true, decide_eq_true_eq] at h
  exact ⟨ri_of h.1, h.2⟩
theorem cut_joined {n : Nd} {i : Nat} (r : Ri n) (hi : i < n.keys.length) : joinN (cutA n i) (n.key i) (cutB n i) = n := by
  unfold joinN
  rw [cutA_leaf]
  cases hl : n.leaf with
  | true =>
    obtain ⟨h1, h2, _⟩ := r.leaf hl
    unfold cutA cutB
    rw [hl, if_pos rfl, if_pos rfl, if_pos rfl]
    obtain ⟨l, k, it, kd⟩ := n
    simp only at hl h2 ⊢
    rw [List.take_append_drop, List.take_append_drop, List.eq_nil_of_length_eq_zero h2, hl]
  | false =>
    obtain ⟨h0, h1, h2, _⟩ := r.other hl
    unfold cutA cutB
    rw [hl, n.key_at i hi]
    obtain ⟨l, k, it, kd⟩ := n
    simp only [Bool.false_eq_true, if_false] at hl h2 hi ⊢
    rw [List.take_append_drop, List.eq_nil_of_length_eq_zero h2, hl]
    have : List.take i k ++ ([k[i]] ++ List.drop (i + 1) k) = k := by
      rw [List.singleton_append, ← List.drop_eq_getElem_cons hi, List.take_append_drop]
    rw [this]
theorem cut_right {n : Nd} {i : Nat} (r : Ri n) (h1 : 1 ≤ i) (hi : fromB n i < n.keys.length) : Ri (cutA n i) ∧ Ri (cutB n i) := by
  have hf : i ≤ fromB n i := by unfold fromB; split <;> omega
  refine ⟨⟨?_, ?_, ?_⟩, ⟨?_, ?_, ?_⟩⟩
  · rw [cutA_keys]; exact rise_take r.rise _
  · rw [cutA_leaf]
    intro hl
    obtain ⟨g1, g2, g3⟩ := r.leaf hl
    unfold cutA
    rw [hl, if_pos rfl]
    refine ⟨?_, rfl, fun x hx => g3 x (List.mem_of_mem_take hx)⟩
    simp only [List.length_take]; omega
  · rw [cutA_leaf]
    intro hl
    obtain ⟨g0, g1, g2, g3⟩ := r.other hl
    unfold cutA
    rw [hl]
    simp only [Bool.false_eq_true, if_false, List.length_take, List.length_nil]
    exact ⟨by omega, by omega, trivial, fun x hx => g3 x (List.mem_of_mem_take hx)⟩
  · rw [cutB_keys]; exact rise_drop r.rise _
  · rw [cutB_leaf]
    intro hl
    obtain ⟨g1, g2, g3⟩ := r.leaf hl
    unfold cutB
    rw [hl, if_pos rfl]
    refine ⟨?_, rfl, fun x hx => g3 x (List.mem_of_mem_drop hx)⟩
    simp only [List.length_drop]; omega
  · rw [cutB_leaf]
    intro hl
    obtain ⟨g0, g1, g2, g3⟩ := r.other hl
    have : fromB n i = i + 1 := by unfold fromB; rw [hl]; rfl
    unfold cutB
    rw [hl]
    simp only [Bool.false_eq_true, if_false, List.length_drop, List.length_nil]
    exact ⟨by omega, by omega, trivial, fun x hx => g3 x (List.mem_of_mem_drop hx)⟩
theorem sizeN_mono (n : Nd) : ∀ (d j : Nat), sizeN n j ≤ sizeN n (j + d)
  | 0, j => Nat.le_refl _
  | d + 1, j => by rw [← Nat.add_assoc, sizeN_succ]; have := sizeN_mono n d j; omega
/-- A quarter each. -/
theorem cut_quarter {n : Nd} {i : Nat} (hs : splitB n = true) (hh : HalfAt n (n.keys.length - leastN n + 1) i) (hT : 492 < sizeN n n.keys.length) :
    123 ≤ sizeN (cutA n i) (cutA n i).keys.length ∧ 123 ≤ sizeN (cutB n i) (cutB n i).keys.length := by
  obtain ⟨r, hk⟩ := split_room hs
  obtain ⟨h1, hle, hlow, hend⟩ := hh
  have hz := sizeN_zero n
  have hBs := cutB_size n i (n.keys.length - fromB n i)
  rw [cutA_keys, cutB_keys, List.length_take, List.length_drop]
  cases hl : n.leaf with
  | true =>
    have e2 : leastN n = 2 := by unfold leastN; rw [hl]; rfl
    have ef : fromB n i = i := by unfold fromB; rw [hl]; rfl
    rw [e2] at hle hend hk
    rw [ef] at hBs ⊢
    rw [hl, if_pos rfl] at hz
    rw [show min i n.keys.length = i by omega, cutA_size n i i (Nat.le_refl _)]
    rw [show i + (n.keys.length - i) = n.keys.length by omega] at hBs
    have hp := sizeN_succ n (i - 1)
    rw [show i - 1 + 1 = i by omega] at hp
    have hkp := r.keyN_le (i - 1) (by omega)
    refine ⟨?_, ?_⟩
    · rcases hend with he | he
      · have hq := sizeN_succ n (n.keys.length - 1)
        rw [show n.keys.length - 1 + 1 = n.keys.length by omega] at hq
        have := r.keyN_le (n.keys.length - 1) (by omega)
        rw [show i = n.keys.length - 1 by omega]
        omega
      · omega
    · by_cases hi1 : i = 1
      · subst hi1
        rw [show 1 - 1 = 0 from rfl] at hp hkp
        omega
      · have := hlow (i - 1) (by omega) (by omega)
        omega
  | false =>
    have e2 : leastN n = 3 := by unfold leastN; rw [hl]; rfl
    have ef : fromB n i = i + 1 := by unfold fromB; rw [hl]; rfl
    rw [e2] at hle hend hk
    rw [ef] at hBs ⊢
    rw [hl] at hz
    simp only [Bool.false_eq_true, if_false] at hz
    rw [show min i n.keys.length = i by omega, cutA_size n i i (Nat.le_refl _)]
    rw [show i + 1 + (n.keys.length - (i + 1)) = n.keys.length by omega] at hBs
    have hp := sizeN_succ n (i - 1)
    rw [show i - 1 + 1 = i by omega] at hp
    have hkp := keyN_other r hl (i - 1) (by omega)
    have hp2 := sizeN_succ n i
    have hkp2 := keyN_other r hl i (by omega)
    refine ⟨?_, ?_⟩
    · rcases hend with he | he
      · have hq := sizeN_succ n (n.keys.length - 1)
        rw [show n.keys.length - 1 + 1 = n.keys.length by omega] at hq
        have hq2 := sizeN_succ n (n.keys.length - 2)
        rw [show n.keys.length - 2 + 1 = n.keys.length - 1 by omega] at hq2
        have := keyN_other r hl (n.keys.length - 1) (by omega)
        have := keyN_other r hl (n.keys.length - 2) (by omega)
        rw [show i = n.keys.length - 2 by omega]
        omega
      · omega
    · by_cases hi1 : i = 1
      · subst hi1
        rw [show 1 - 1 = 0 from rfl] at hp hkp
        omega
      · have := hlow (i - 1) (by omega) (by omega)
        omega
/-- The keys lie on their sides. -/
theorem cut_sides {n : Nd} {i : Nat} (r : Ri n) (h1 : 1 ≤ i) (hi : fromB n i < n.keys.length) :
    lt (n.key (i - 1)) (n.key i) = true ∧ lt (n.key (fromB n i)) (n.key i) = false := by
  have hf : i ≤ fromB n i := by unfold fromB; split <;> omega
  have hr := rise_iff.1 r.rise
  refine ⟨?_, ?_⟩
  · rw [n.key_at i (by omega)]
    exact (hr i (by omega)).2 (by omega)
  · unfold fromB
    cases hl : n.leaf with
    | true => exact lt_irrefl _
    | false =>
      have ef : fromB n i = i + 1 := by unfold fromB; rw [hl]; rfl
      have := (hr (i + 1) (by omega)).2 (by omega)
      rw [show i + 1 - 1 = i from rfl] at this
      have h2 := lt_asymm this
      simp only [Bool.false_eq_true, if_false]
      rw [n.key_at (i + 1) (by omega)]
      exact h2
theorem cut_range {n : Nd} {i : Nat} (hs : splitB n = true) (hh : HalfAt n (n.keys.length - leastN n + 1) i) : 1 ≤ i ∧ i < n.keys.length ∧ fromB n i < n.keys.length := by
  obtain ⟨r, hk⟩ := split_room hs
  obtain ⟨h1, hle, _, _⟩ := hh
  unfold leastN at hk hle
  unfold fromB
  cases hl : n.leaf with
  | true => rw [hl] at hk hle; simp only [if_true] at hk hle ⊢; omega
  | false => rw [hl] at hk hle; simp only [Bool.false_eq_true, if_false] at hk hle ⊢; omega
end Go.Proofs.Ytkipigbfbhecjaa
