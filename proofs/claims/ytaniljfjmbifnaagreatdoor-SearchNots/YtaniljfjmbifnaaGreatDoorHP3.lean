/- What this text holds: what the library's plain functions are at the bytes that the program hands them. -/
import Derived.Test.YtaniljfjmbifnaaGreatDoorHP2
import Derived.Lib.Strings
import Derived.Lib.IndexMore
import Derived.Lib.Replace
import Derived.Lib.LastIndexByte
import Derived.Lib.SlicesS
import Derived.Lib.IndexBytes
namespace Go.Proofs.YtaniljfjmbifnaaGreatDoor.H
set_option linter.unusedVariables false
set_option linter.unusedSimpArgs false

theorem suf_one (s : Bs) (c : UInt8) : Go.Lib.hasSuffix s [c] = decide (s.getLast? = some c) := by
  unfold Go.Lib.hasSuffix
  rw [Bool.eq_iff_iff, List.isSuffixOf_iff_suffix, decide_eq_true_eq]
  constructor
  · rintro ⟨t, rfl⟩; simp
  · intro h
    refine ⟨s.dropLast, ?_⟩
    have hn : s ≠ [] := by rintro rfl; simp at h
    rw [List.getLast?_eq_some_getLast hn] at h
    have := List.dropLast_concat_getLast hn
    rw [Option.some.inj h] at this
    exact this
theorem trimSuf_one (s : Bs) (c : UInt8) : Go.Lib.trimSuffix s [c] = if s.getLast? = some c then s.dropLast else s := by
  unfold Go.Lib.trimSuffix
  rw [suf_one]
  by_cases h : s.getLast? = some c
  · simp [h, List.dropLast_eq_take]
  · simp [h]
theorem idx_none : ∀ (s : Bs) (c : UInt8), Go.Lib.indexByte s c = -1 → s.takeWhile (· != c) = s
  | [], _, _ => rfl
  | b :: s, c, h => by
    unfold Go.Lib.indexByte at h
    by_cases hc : b = c
    · rw [if_pos (by simp [hc])] at h; omega
    · rw [if_neg (by simp [hc])] at h
      by_cases h1 : Go.Lib.indexByte s c = -1
      · rw [List.takeWhile_cons, if_pos (by simp [hc]), idx_none s c h1]
      · rw [if_neg (by simp [h1])] at h
        have := Go.Lib.indexByte_ge s c
        omega
theorem idx_some : ∀ (s : Bs) (c : UInt8) (k : Nat), Go.Lib.indexByte s c = (k : Int) → s.takeWhile (· != c) = s.take k ∧ k < s.length
  | [], c, k, h => by unfold Go.Lib.indexByte at h; omega
  | b :: s, c, k, h => by
    unfold Go.Lib.indexByte at h
    by_cases hc : b = c
    · rw [if_pos (by simp [hc])] at h
      have : k = 0 := by omega
      subst this
      subst hc
      simp [List.takeWhile_cons]
    · rw [if_neg (by simp [hc])] at h
      by_cases h1 : Go.Lib.indexByte s c = -1
      · rw [if_pos (by simp [h1])] at h; omega
      · rw [if_neg (by simp [h1])] at h
        have h2 := Go.Lib.indexByte_ge s c
        obtain ⟨k', rfl⟩ : ∃ k', k = k' + 1 := ⟨k - 1, by omega⟩
        have := idx_some s c k' (by omega)
        rw [List.takeWhile_cons, if_pos (by simp [hc]), this.1]
        exact ⟨rfl, by simp; omega⟩
theorem index_one (s : Bs) (c : UInt8) : Go.Lib.index s [c] = Go.Lib.indexByte s c := by
  exact Go.Lib.index_one s c
theorem cut_one (s : Bs) (c : UInt8) : (Go.Lib.cut s [c]).1 = s.takeWhile (· != c) ∧ (Go.Lib.cut s [c]).2.2 = decide ((s.takeWhile (· != c)).length < s.length) := by
  unfold Go.Lib.cut
  rw [index_one]
  have := Go.Lib.indexByte_ge s c
  by_cases h : 0 ≤ Go.Lib.indexByte s c
  · rw [if_pos h]
    obtain ⟨h1, h2⟩ := idx_some s c (Go.Lib.indexByte s c).toNat (by omega)
    refine ⟨h1.symm, ?_⟩
    show true = _
    rw [h1]
    simp; omega
  · rw [if_neg h]
    have h1 := idx_none s c (by omega)
    refine ⟨h1.symm, ?_⟩
    show false = _
    rw [h1]
    simp
theorem idx_split : ∀ (s : Bs) (c : UInt8) (k : Nat), Go.Lib.indexByte s c = (k : Int) → ∃ t r, s = t ++ c :: r ∧ t.length = k ∧ ∀ x ∈ t, x ≠ c
  | [], c, k, h => by unfold Go.Lib.indexByte at h; omega
  | b :: s, c, k, h => by
    unfold Go.Lib.indexByte at h
    by_cases hc : b = c
    · rw [if_pos (by simp [hc])] at h
      have : k = 0 := by omega
      subst this
      subst hc
      exact ⟨[], s, rfl, rfl, by simp⟩
    · rw [if_neg (by simp [hc])] at h
      by_cases h1 : Go.Lib.indexByte s c = -1
      · rw [if_pos (by simp [h1])] at h; omega
      · rw [if_neg (by simp [h1])] at h
        have h2 := Go.Lib.indexByte_ge s c
        obtain ⟨k', rfl⟩ : ∃ k', k = k' + 1 := ⟨k - 1, by omega⟩
        obtain ⟨t, r, rfl, rfl, h4⟩ := idx_split s c k' (by omega)
        exact ⟨b :: t, r, rfl, rfl, fun x hx => by rcases List.mem_cons.1 hx with rfl | hx; exact hc; exact h4 x hx⟩
theorem idx_no : ∀ (s : Bs) (c : UInt8), Go.Lib.indexByte s c = -1 → ∀ x ∈ s, x ≠ c
  | [], c, h => by simp
  | b :: s, c, h => by
    unfold Go.Lib.indexByte at h
    by_cases hc : b = c
    · rw [if_pos (by simp [hc])] at h; omega
    · rw [if_neg (by simp [hc])] at h
      by_cases h1 : Go.Lib.indexByte s c = -1
      · intro x hx
        rcases List.mem_cons.1 hx with rfl | hx
        · exact hc
        · exact idx_no s c h1 x hx
      · rw [if_neg (by simp [h1])] at h
        have := Go.Lib.indexByte_ge s c
        omega
theorem filter_no (s : Bs) (c : UInt8) (h : ∀ x ∈ s, x ≠ c) : s.filter (· != c) = s :=
  List.filter_eq_self.2 fun x hx => by simp [h x hx]
theorem replK (c : UInt8) : ∀ (k : Nat) (s : Bs), s.count c ≤ k → Go.Lib.replaceK [c] [] k s = s.filter (· != c)
  | 0, s, h => by
    have h0 : s.count c = 0 := by omega
    rw [List.count_eq_zero] at h0
    rw [filter_no s c (fun x hx e => h0 (e ▸ hx))]
    rfl
  | k + 1, s, h => by
    unfold Go.Lib.replaceK
    rw [index_one]
    have hg := Go.Lib.indexByte_ge s c
    by_cases h0 : Go.Lib.indexByte s c = -1
    · rw [if_pos (by simp [h0]), filter_no s c (idx_no s c h0)]
    · obtain ⟨t, r, h1, h2, h3⟩ := idx_split s c (Go.Lib.indexByte s c).toNat (by omega)
      rw [if_neg (by simp [h0])]
      generalize (Go.Lib.indexByte s c).toNat = i at h2
      subst h1 h2
      have hr : r.count c ≤ k := by
        rw [List.count_append, List.count_cons_self] at h
        omega
      rw [List.filter_append, filter_no t c h3, List.filter_cons, if_neg (by simp)]
      have e1 : (t ++ c :: r).take t.length = t := by simp
      have e2 : (t ++ c :: r).drop (t.length + [c].length) = r := by simp
      rw [e1, e2, replK c k r hr, List.append_nil]
theorem countN (c : UInt8) : ∀ (k : Nat) (s : Bs), s.length ≤ k → Go.Lib.countFrom [c] k s = s.count c
  | 0, s, h => by
    have : s = [] := List.eq_nil_of_length_eq_zero (by omega)
    subst this; rfl
  | k + 1, s, h => by
    unfold Go.Lib.countFrom
    rw [index_one]
    have hg := Go.Lib.indexByte_ge s c
    by_cases h0 : Go.Lib.indexByte s c = -1
    · rw [if_pos (by simp [h0])]
      exact (List.count_eq_zero.2 fun hm => idx_no s c h0 c hm rfl).symm
    · obtain ⟨t, r, h1, h2, h3⟩ := idx_split s c (Go.Lib.indexByte s c).toNat (by omega)
      rw [if_neg (by simp [h0])]
      generalize (Go.Lib.indexByte s c).toNat = i at h2
      subst h1 h2
      have e2 : (t ++ c :: r).drop (t.length + [c].length) = r := by simp
      rw [e2, countN c k r (by simp at h; omega), List.count_append, List.count_cons_self, List.count_eq_zero.2 fun hm => h3 c hm rfl]
      omega
theorem replAll (s : Bs) (c : UInt8) : Go.Lib.replaceAll s [c] [] = s.filter (· != c) := by
  unfold Go.Lib.replaceAll Go.Lib.replace
  rw [if_neg (by simp)]
  refine replK c _ s ?_
  unfold Go.Lib.replaceNum
  rw [if_pos (by simp)]
  unfold Go.Lib.count
  rw [countN c _ s (by omega)]
  exact Nat.le_refl _
theorem lastIdx_at (s : Bs) (S : ByteArray) (hS : S.data.toList = s) : ∀ k : Nat, k ≤ s.length → Go.Lib.lastIdx S 64 k = match lastAt (s.take k) with
    | none => -1
    | some i => (i : Int)
  | 0, _ => by simp [Go.Lib.lastIdx, lastAt]
  | k + 1, h => by
    have hk : k < s.length := by omega
    have h1 := lastIdx_at s S hS k (by omega)
    rw [List.take_succ_eq_append_getElem hk, lastAt_snoc]
    have e : S.data[k]! = s[k] := by
      subst hS
      have : k < S.data.size := by simpa using hk
      rw [getElem!_pos S.data k this]
      simp
    unfold Go.Lib.lastIdx
    rw [e]
    by_cases hc : s[k] = 64
    · rw [if_pos (by rw [hc]; rfl), if_pos hc]
      simp; omega
    · have hc2 : ¬ ((s[k].toNat : Int) = 64) := fun h => hc (UInt8.toNat_inj.1 (by
        have : s[k].toNat = 64 := by omega
        exact this))
      rw [if_neg hc2, if_neg hc, h1]
theorem lastIB (s : Bs) (S : ByteArray) (hS : S.data.toList = s) : Go.Lib.lastIndexByte S 64 = match lastAt s with
    | none => -1
    | some i => (i : Int) := by
  unfold Go.Lib.lastIndexByte
  have hz : S.size = s.length := by subst hS; rw [← Go.Lib.size_eq]
  have := lastIdx_at s S hS S.size (by omega)
  rw [hz, List.take_length] at this
  rw [hz]; exact this
end Go.Proofs.YtaniljfjmbifnaaGreatDoor.H
