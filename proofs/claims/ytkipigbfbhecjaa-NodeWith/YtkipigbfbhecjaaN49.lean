/- What this text holds: a leaf with one key more: right, its size, where the key is; without it again. -/
import Derived.Test.YtkipigbfbhecjaaN38
import Derived.Test.YtkipigbfbhecjaaN21
namespace Go.Proofs.Ytkipigbfbhecjaa
open Go.RowKit
set_option linter.unusedVariables false
set_option linter.unusedSimpArgs false

/-- A list with one more. -/
def ins {α : Type} (l : List α) (i : Nat) (x : α) : List α := l.take i ++ [x] ++ l.drop i
section
variable {α : Type} {l : List α} {i : Nat} {x : α}
theorem ins_length (h : i ≤ l.length) : (ins l i x).length = l.length + 1 := by
  unfold ins
  simp only [List.length_append, List.length_take, List.length_drop, List.length_cons, List.length_nil]
  omega
theorem ins_get (h : i ≤ l.length) (j : Nat) : (ins l i x)[j]? = if j < i then l[j]? else if j = i then some x else l[j - 1]? := by
  have hl : (l.take i).length = i := by simp only [List.length_take]; omega
  unfold ins
  rw [List.append_assoc, List.getElem?_append, hl]
  by_cases h1 : j < i
  · rw [if_pos h1, if_pos h1, List.getElem?_take, if_pos h1]
  · rw [if_neg h1, if_neg h1]
    by_cases h2 : j = i
    · rw [if_pos h2, h2, Nat.sub_self]; rfl
    · rw [if_neg h2, show j - i = (j - 1 - i) + 1 by omega]
      simp only [List.singleton_append, List.getElem?_cons_succ, List.getElem?_drop]
      congr 1
      omega
theorem ins_getD (h : i ≤ l.length) (j : Nat) (d : α) : (ins l i x).getD j d = if j < i then l.getD j d else if j = i then x else l.getD (j - 1) d := by
  rw [List.getD_eq_getElem?_getD, ins_get h]
  split
  · rw [List.getD_eq_getElem?_getD]
  · split
    · rfl
    · rw [List.getD_eq_getElem?_getD]
theorem ins_out (h : i ≤ l.length) : (ins l i x).take i ++ (ins l i x).drop (i + 1) = l := by
  have hl : (l.take i).length = i := by simp only [List.length_take]; omega
  have e1 : (ins l i x).take i = l.take i := by
    unfold ins
    rw [List.append_assoc, List.take_append_of_le_length (by omega), List.take_of_length_le (by omega)]
  have e2 : (ins l i x).drop (i + 1) = l.drop i := by
    unfold ins
    have h2 : (l.take i ++ [x]).length = i + 1 := by rw [List.length_append, hl]; rfl
    have := List.drop_left (l₁ := l.take i ++ [x]) (l₂ := l.drop i)
    rw [h2] at this
    exact this
  rw [e1, e2, List.take_append_drop]
theorem ins_mem (y : α) (h : y ∈ ins l i x) : y = x ∨ y ∈ l := by
  unfold ins at h
  simp only [List.mem_append, List.mem_singleton] at h
  rcases h with (h | h) | h
  · exact .inr (List.mem_of_mem_take h)
  · exact .inl h
  · exact .inr (List.mem_of_mem_drop h)
end
/-- Keys with one more at its place rise. -/
theorem rise_ins {keys : List ByteArray} {key : ByteArray} (h : risingB keys = true) (hk : key.size ≤ 60) (hno : isB keys key = false) : risingB (ins keys (lowN keys key) key) = true := by
  have hle := lowN_le keys key
  have hr := rise_iff.1 h
  have hup : ∀ j (hj : j < keys.length), lowN keys key ≤ j → lt key keys[j] = true := by
    intro j hj hlj
    have h1 : lt keys[j] key = false := by
      cases hh : lt keys[j] key with
      | false => rfl
      | true => have := lt_low h j hj hh; omega
    cases hh : lt key keys[j] with
    | true => rfl
    | false =>
      exfalso
      have e := lt_total h1 hh
      have e2 := eq_low h j hj e
      unfold isB at hno
      rw [← e2, List.getElem?_eq_getElem hj, e] at hno
      simp at hno
  generalize hp : lowN keys key = p at *
  rw [rise_iff]
  intro i hi
  rw [ins_length hle] at hi
  have hget : (ins keys p key)[i]? = some ((ins keys p key)[i]'(by rw [ins_length hle]; exact hi)) := List.getElem?_eq_getElem _
  generalize hv : (ins keys p key)[i]'(by rw [ins_length hle]; exact hi) = v at *
  rw [ins_get hle] at hget
  by_cases h1 : i < p
  · rw [if_pos h1, List.getElem?_eq_getElem (by omega)] at hget
    obtain rfl := Option.some.inj hget
    refine ⟨(hr i (by omega)).1, fun h0 => ?_⟩
    rw [ins_getD hle, if_pos (by omega)]
    exact (hr i (by omega)).2 h0
  · rw [if_neg h1] at hget
    by_cases h2 : i = p
    · rw [if_pos h2] at hget
      obtain rfl := Option.some.inj hget
      refine ⟨hk, fun h0 => ?_⟩
      rw [ins_getD hle, if_pos (by omega), List.getD_eq_getElem?_getD, List.getElem?_eq_getElem (show i - 1 < keys.length by omega), Option.getD_some]
      exact low_lt keys key (i - 1) (by omega) (by omega)
    · rw [if_neg h2, List.getElem?_eq_getElem (show i - 1 < keys.length by omega)] at hget
      obtain rfl := Option.some.inj hget
      refine ⟨(hr (i - 1) (by omega)).1, fun h0 => ?_⟩
      rw [ins_getD hle, if_neg (by omega)]
      by_cases h3 : i - 1 = p
      · rw [if_pos h3]
        exact hup (i - 1) (by omega) (by omega)
      · rw [if_neg h3]
        exact (hr (i - 1) (by omega)).2 (by omega)
/-- The leaf with one key more. -/
def withN (n : Nd) (i : Nat) (key : ByteArray) (x : It) : Nd := ⟨true, ins n.keys i key, ins n.items i x, []⟩
theorem with_right {n : Nd} {key val : ByteArray} (r : Ri n) (hl : n.leaf = true) (hk : key.size ≤ 60) (hv : val.size ≤ 60) (hno : isB n.keys key = false) : Ri (withN n (lowN n.keys key) key ⟨val, 0, 0⟩) := by
  obtain ⟨h1, h2, h3⟩ := r.leaf hl
  have hle := lowN_le n.keys key
  refine ⟨rise_ins r.rise hk hno, fun _ => ⟨?_, rfl, fun x hx => ?_⟩, fun h => by cases h⟩
  · show (ins n.items _ _).length = (ins n.keys _ _).length
    rw [ins_length hle, ins_length (by omega), h1]
  · rcases ins_mem x hx with rfl | hx
    · unfold itemOk
      rw [if_pos rfl]
      simp [hv]
    · exact h3 x hx
theorem with_keyN {n : Nd} {i : Nat} {key val : ByteArray} (hl : n.leaf = true) (hi : i ≤ n.keys.length) (hin : n.items.length = n.keys.length) (j : Nat) :
    keyN (withN n i key ⟨val, 0, 0⟩) j = if j < i then keyN n j else if j = i then 2 + key.size + val.size else keyN n (j - 1) := by
  rw [keyN_eq, keyN_eq, keyN_eq, hl]
  have hlw : (withN n i key ⟨val, 0, 0⟩).leaf = true := rfl
  rw [hlw]
  simp only [if_true]
  have ek : (withN n i key ⟨val, 0, 0⟩).key j = if j < i then n.key j else if j = i then key else n.key (j - 1) := ins_getD hi j _
  have ei : (withN n i key ⟨val, 0, 0⟩).item j = if j < i then n.item j else if j = i then ⟨val, 0, 0⟩ else n.item (j - 1) := ins_getD (by omega) j _
  rw [ek, ei]
  by_cases h1 : j < i
  · simp only [if_pos h1]
  · simp only [if_neg h1]
    by_cases h2 : j = i
    · simp only [if_pos h2]
      rw [itemL_length, if_pos rfl]
      show 1 + key.size + (1 + val.size) = _
      omega
    · simp only [if_neg h2]
theorem with_size {n : Nd} {i : Nat} {key val : ByteArray} (hl : n.leaf = true) (hi : i ≤ n.keys.length) (hin : n.items.length = n.keys.length) : ∀ j, sizeN (withN n i key ⟨val, 0, 0⟩) j = if j ≤ i then sizeN n j else sizeN n (j - 1) + (2 + key.size + val.size)
  | 0 => by rw [if_pos (Nat.zero_le _), sizeN_zero, sizeN_zero, hl]; rfl
  | j + 1 => by
    rw [sizeN_succ, with_size hl hi hin j, with_keyN hl hi hin]
    by_cases h1 : j + 1 ≤ i
    · rw [if_pos h1, if_pos (by omega), if_pos (by omega), sizeN_succ]
    · rw [if_neg h1]
      by_cases h2 : j = i
      · subst h2
        rw [if_pos (Nat.le_refl _), if_neg (by omega), if_pos rfl]
        rfl
      · rw [if_neg (by omega), if_neg (by omega), if_neg h2]
        have := sizeN_succ n (j - 1)
        rw [show j - 1 + 1 = j by omega] at this
        rw [show j + 1 - 1 = j by omega]
        omega
theorem find_key {n : Nd} {key : ByteArray} {x : It} (h : rightB (withN n (lowN n.keys key) key x) = true) : findV (withN n (lowN n.keys key) key x) key = .tuple #[.int .i64 ((lowN n.keys key : Nat) : Int), .bool true] := by
  have hle := lowN_le n.keys key
  have hlt : lowN n.keys key < (ins n.keys (lowN n.keys key) key).length := by rw [ins_length hle]; omega
  have hg : (ins n.keys (lowN n.keys key) key)[lowN n.keys key]? = some key := by rw [ins_get hle, if_neg (by omega), if_pos rfl]
  have hr : risingB (ins n.keys (lowN n.keys key) key) = true := (ri_of h).rise
  have he : (ins n.keys (lowN n.keys key) key)[lowN n.keys key] = key := by
    rw [List.getElem?_eq_getElem hlt] at hg
    exact Option.some.inj hg
  have hp := eq_low hr _ hlt he
  unfold findV
  rw [if_pos h]
  show Value.tuple #[.int .i64 ((if isB (ins n.keys (lowN n.keys key) key) key && !true then _ else lowN (ins n.keys (lowN n.keys key) key) key : Nat) : Int), .bool (isB (ins n.keys (lowN n.keys key) key) key)] = _
  rw [← hp]
  have hi : isB (ins n.keys (lowN n.keys key) key) key = true := by
    unfold isB
    rw [← hp, hg]
    simp
  rw [hi]
  rfl
theorem with_out {n : Nd} {i : Nat} {key : ByteArray} {x : It} (r : Ri n) (hl : n.leaf = true) (hi : i ≤ n.keys.length) :
    (⟨true, (withN n i key x).keys.take i ++ (withN n i key x).keys.drop (i + 1), (withN n i key x).items.take i ++ (withN n i key x).items.drop (i + 1), []⟩ : Nd) = n := by
  obtain ⟨h1, h2, h3⟩ := r.leaf hl
  show (⟨true, (ins n.keys i key).take i ++ (ins n.keys i key).drop (i + 1), (ins n.items i x).take i ++ (ins n.items i x).drop (i + 1), []⟩ : Nd) = n
  rw [ins_out hi, ins_out (by omega)]
  obtain ⟨l, k, it, kd⟩ := n
  simp only at hl h2 ⊢
  rw [hl, List.eq_nil_of_length_eq_zero h2]
end Go.Proofs.Ytkipigbfbhecjaa
