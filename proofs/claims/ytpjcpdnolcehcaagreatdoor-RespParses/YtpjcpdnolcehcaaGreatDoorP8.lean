/- What this text holds: what is read is not much more than the bytes that it was read of, and its numbers are Go's. -/
import Derived.Test.YtpjcpdnolcehcaaGreatDoorP7
namespace Go.Proofs.YtpjcpdnolcehcaaGreatDoor
open Go.RowKit
set_option linter.unusedVariables false
set_option linter.unusedSimpArgs false

mutual
def IntV : Vl → Prop
  | .mk k x n kids frm => I64 n ∧ (∀ m ∈ frm, I64 m) ∧ IntL kids
def IntL : List Vl → Prop
  | [] => True
  | v :: l => IntV v ∧ IntL l
end
mutual
theorem num_intV : ∀ v : Vl, IntV v → masV v ≤ 100000000 → NumV v
  | .mk k x n kids frm, h, hm => by
    obtain ⟨h1, h3, h4⟩ := h
    simp only [masV] at hm
    have := len_mas kids
    exact ⟨h1, by omega, h3, num_intL kids h4 (by omega), by omega, by omega⟩
theorem num_intL : ∀ l : List Vl, IntL l → masL l ≤ 100000000 → NumL l
  | [], _, _ => trivial
  | v :: l, h, hm => by
    simp only [masL] at hm
    exact ⟨num_intV v h.1 (by omega), num_intL l h.2 (by omega)⟩
end
theorem atoi_i64 {s : Bs} {n : Int} (h : Go.Lib.atoiAll s = .ok n) : I64 n := by
  unfold Go.Lib.atoiAll at h
  split at h
  · cases h
  · simp only at h
    split at h
    · cases h
    · cases h
    · rename_i u hu
      unfold I64
      split at h
      · cases h
      · split at h
        · cases h
        · split at h <;> (cases h; omega)
theorem num_i64 {s : Bs} {n : Int} (h : numP s = some n) : I64 n := atoi_i64 (numP_some h)
theorem num_ne {s : Bs} {n : Int} (h : numP s = some n) : s ≠ [] := by
  rintro rfl
  have := numP_some h
  simp [Go.Lib.atoiAll] at this
theorem number_i64 {s r : Bs} {n : Int} (h : numberP s = some (n, r)) : I64 n := by
  unfold numberP at h
  rw [Option.map_eq_some_iff] at h
  obtain ⟨m, hm, e⟩ := h
  cases e
  exact num_i64 hm
def MsV (f : Bs → Option (Vl × Bs)) : Prop := ∀ s v r, f s = some (v, r) → masV v + 2 * r.length ≤ 2 * s.length ∧ IntV v
def MsL (f : Bs → Option (List Vl × Bs)) : Prop := ∀ s l r, f s = some (l, r) → masL l + 2 * r.length ≤ 2 * s.length ∧ IntL l
theorem i0 : I64 0 := ⟨by omega, by omega⟩
theorem ms_values {rd : Bs → Option (Vl × Bs)} (h : MsV rd) : ∀ f, MsL (valuesP rd f)
  | 0, s, v, r, hh => by simp [valuesP] at hh
  | f + 1, s, v, r, hh => by
    unfold valuesP at hh
    split at hh
    · cases hh
    · rename_i x t hx
      have h1 := h _ _ _ hx
      split at hh
      · cases hh
        exact ⟨by simp only [masL]; omega, h1.2, trivial⟩
      · rename_i u hu
        have h2 := needP_le hu
        rw [Option.map_eq_some_iff] at hh
        obtain ⟨p, hp, e⟩ := hh
        cases e
        have := ms_values h f _ _ _ hp
        exact ⟨by simp only [masL]; omega, h1.2, this.2⟩
theorem ms_kid {vs : Bs → Option (List Vl × Bs)} (h : MsL vs) (c : UInt8) : MsL (kidF vs c) := fun s v r hh => by
  unfold kidF at hh
  split at hh
  · rename_i u hu
    cases hh
    have := needP_le hu
    exact ⟨by simp only [masL]; omega, trivial⟩
  · split at hh
    · cases hh
    · rename_i l u hu
      rw [Option.map_eq_some_iff] at hh
      obtain ⟨p, hp, e⟩ := hh
      cases e
      have h9 := h _ _ _ hu
      have := needP_le hp
      exact ⟨by omega, h9.2⟩
theorem tw_len (p : UInt8 → Bool) (s : Bs) : (s.takeWhile p).length + (s.dropWhile p).length = s.length := by
  have := congrArg List.length (List.takeWhile_append_dropWhile (p := p) (l := s))
  rw [List.length_append] at this
  omega
theorem ms_sect {x : Bs} {k : Option (List Vl × Bs)} {n : Nat} (hk : ∀ l r, k = some (l, r) → 1 + x.length + masL l + 2 * r.length ≤ n ∧ IntL l) {v : Vl} {r : Bs} (hh : sectP x k = some (v, r)) : masV v + 2 * r.length ≤ n ∧ IntV v := by
  unfold sectP at hh
  split at hh
  · cases hh
  · rename_i l u
    have h1 := hk _ _ rfl
    split at hh
    · cases hh
      exact ⟨by simp only [masV, List.length_nil]; omega, i0, by simp, h1.2⟩
    · rename_i t ht
      have h2 := (needP_some ht).2.2
      simp only [List.length_cons, List.length_nil] at h2
      split at hh
      · cases hh
      · rename_i m q hq
        have h3 := (numberP_ge hq).2
        rw [Option.map_eq_some_iff] at hh
        obtain ⟨p, hp, e⟩ := hh
        cases e
        have := needP_le hp
        exact ⟨by simp only [masV, List.length_cons, List.length_nil]; omega, i0, by simpa using number_i64 hq, h1.2⟩
theorem ms_word {kid : UInt8 → Bs → Option (List Vl × Bs)} (h : ∀ c, MsL (kid c)) : MsV (wordP kid) := fun s v r hh => by
  have hd := tw_len letB s
  unfold wordP at hh
  split at hh
  · rename_i t ht
    have h1 := (needP_some ht).2.2
    simp only [List.length_cons, List.length_nil] at h1
    exact ms_sect (fun l r hl => by have := h _ _ _ _ hl; exact ⟨by omega, this.2⟩) hh
  · split at hh
    · rw [Option.map_eq_some_iff] at hh
      obtain ⟨p, hp, e⟩ := hh
      cases e
      have := List.length_pos_iff.2 (num_ne hp)
      exact ⟨by simp only [masV, masL, List.length_nil]; omega, num_i64 hp, by simp, trivial⟩
    · rename_i h0
      have : (s.takeWhile letB).length ≠ 0 := by
        intro e
        rw [List.eq_nil_of_length_eq_zero e] at h0
        simp at h0
      split at hh
      · cases hh
        exact ⟨by simp only [masV, masL, List.length_nil]; omega, i0, by simp, trivial⟩
      · cases hh
        exact ⟨by simp only [masV, masL, List.length_nil]; omega, i0, by simp, trivial⟩
theorem counted_len {s x r : Bs} (h : countedP s = some (x, r)) : x.length + r.length ≤ s.length := by
  unfold countedP at h
  split at h
  · cases h
  · rename_i n t hn
    split at h
    · cases h
    · rename_i u hu
      split at h
      · rename_i hl
        cases h
        have h1 := numberP_ge hn
        have := needP_le hu
        simp
        omega
      · cases h
theorem ms_body {kid : UInt8 → Bs → Option (List Vl × Bs)} (h : ∀ c, MsL (kid c)) : MsV (bodyP kid) := fun s v r hh => by
  unfold bodyP at hh
  split at hh
  · rename_i t ht
    have h1 := (needP_some ht).2.2
    simp only [List.length_cons, List.length_nil] at h1
    rw [Option.map_eq_some_iff] at hh
    obtain ⟨p, hp, e⟩ := hh
    cases e
    have := quoted_len t.length t p.1 p.2 (Nat.le_refl _) hp
    exact ⟨by simp only [masV, masL, List.length_nil]; omega, i0, by simp, trivial⟩
  · split at hh
    · rename_i t ht
      have h1 := (needP_some ht).2.2
      simp only [List.length_cons, List.length_nil] at h1
      rw [Option.map_eq_some_iff] at hh
      obtain ⟨p, hp, e⟩ := hh
      cases e
      have := counted_len (x := p.1) (r := p.2) hp
      exact ⟨by simp only [masV, masL, List.length_nil]; omega, i0, by simp, trivial⟩
    · split at hh
      · rename_i t ht
        have h1 := (needP_some ht).2.2
        simp only [List.length_cons, List.length_nil] at h1
        rw [Option.map_eq_some_iff] at hh
        obtain ⟨p, hp, e⟩ := hh
        cases e
        have := h _ _ _ _ hp
        exact ⟨by simp only [masV, List.length_nil]; omega, i0, by simp, this.2⟩
      · exact ms_word h _ _ _ hh
theorem ms_value : ∀ d, MsV (valueP d)
  | 0 => fun s v r hh => ms_body (kid := fun _ _ => none) (fun c s v r h => by cases h) s v r hh
  | d + 1 => fun s v r hh => ms_body (fun c => ms_kid (fun s v r h => ms_values (ms_value d) _ _ _ _ h) c) s v r hh
theorem ms_vals (d : Nat) : MsL (valsP d) := fun s v r h => ms_values (ms_value d) _ _ _ _ h
def MsN (l : Ln) (a b : Nat) : Prop := masN l + 2 * b ≤ 2 * a ∧ IntL l.vals ∧ IntL l.code
theorem ms_behind (tag s : Bs) (l : Ln) (r : Bs) (hh : behindP tag s = some (l, r)) : masN l + 2 * r.length ≤ 2 * s.length + tag.length ∧ IntL l.vals ∧ IntL l.code := by
  have hd := tw_len letB s
  unfold behindP at hh
  split at hh
  · split at hh
    · cases hh
      have h2 := tw_len plB ((s.dropWhile letB).drop 1)
      simp only [List.length_drop] at h2
      exact ⟨by simp only [masN, masL]; omega, trivial, trivial⟩
    · rename_i t ht
      have h2 := needP_le ht
      simp only [List.length_drop] at h2
      split at hh
      · cases hh
      · rename_i ks q hq
        have h3 := ms_vals 30 _ _ _ hq
        split at hh
        · cases hh
        · rename_i q2 hq2
          have h4 := needP_le hq2
          split at hh
          · cases hh
          · rename_i q3 hq3
            have h5 := needP_le hq3
            cases hh
            have h6 := tw_len plB q3
            exact ⟨by simp only [masN, masL]; omega, trivial, h3.2⟩
  · rw [Option.map_eq_some_iff] at hh
    obtain ⟨p, hp, e⟩ := hh
    cases e
    have := ms_vals 30 _ _ _ hp
    exact ⟨by simp only [masN, masL, List.length_nil]; omega, this.2, trivial⟩
theorem ms_line (s : Bs) (l : Ln) (r : Bs) (hh : lineP s = some (l, r)) : masN l + 2 * r.length ≤ 2 * s.length ∧ IntL l.vals ∧ IntL l.code := by
  have hd := tw_len letB s
  unfold lineP at hh
  split at hh
  · cases hh
  · rename_i t ht
    have h2 := (needP_some ht).2.2
    simp only [List.length_cons, List.length_nil] at h2
    have key : ∀ (l : Ln) (r : Bs), (if s.takeWhile letB = [43] then some ((⟨[43], [], [], [], t.takeWhile plB⟩ : Ln), t.dropWhile plB) else behindP (s.takeWhile letB) t) = some (l, r) → masN l + 2 * r.length ≤ 2 * s.length ∧ IntL l.vals ∧ IntL l.code := by
      intro l r h
      split at h
      · rename_i he
        cases h
        rw [he] at hd
        have h6 := tw_len plB t
        simp only [List.length_cons, List.length_nil] at hd
        exact ⟨by simp only [masN, masL, List.length_cons, List.length_nil]; omega, trivial, trivial⟩
      · have := ms_behind _ _ _ _ h
        exact ⟨by omega, this.2⟩
    split at hh
    · cases hh
    · rename_i l' r' hl
      have h3 := key l' r' hl
      rw [Option.map_eq_some_iff] at hh
      obtain ⟨p, hp, e⟩ := hh
      cases e
      have := needP_le hp
      exact ⟨by omega, h3.2⟩
theorem ms_lines : ∀ (f : Nat) (s : Bs) (ls : List Ln), linesP f s = some ls → masA ls ≤ 2 * s.length ∧ ls.length ≤ s.length ∧ ∀ l ∈ ls, IntL l.vals ∧ IntL l.code
  | 0, s, ls, h => by simp [linesP] at h
  | f + 1, s, ls, h => by
    unfold linesP at h
    split at h
    · cases h
      exact ⟨by simp [masA], by simp, by simp⟩
    · split at h
      · cases h
      · rename_i l r hl
        have h1 := ms_line _ _ _ hl
        have h2 := shr_line _ _ _ hl
        rw [Option.map_eq_some_iff] at h
        obtain ⟨p, hp, e⟩ := h
        cases e
        have ih := ms_lines f _ _ hp
        refine ⟨by simp only [masA]; omega, by simp only [List.length_cons]; omega, fun m hm => ?_⟩
        rcases List.mem_cons.1 hm with rfl | hm
        · exact h1.2
        · exact ih.2.2 m hm
theorem num_intN {l : Ln} (h1 : IntL l.vals) (h2 : IntL l.code) (hm : masN l ≤ 100000000) : NumN l := by
  unfold masN at hm
  have := len_mas l.vals
  have := len_mas l.code
  exact ⟨num_intL _ h1 (by omega), num_intL _ h2 (by omega), by omega, by omega, by omega, by omega, by omega⟩
/-- What is read of few bytes is not too much. -/
theorem read_small {s : Bs} {ls : List Ln} (hs : s.length ≤ 1000000) (h : linesP (s.length + 1) s = some ls) : ls.length ≤ 1000000000 ∧ (∀ x ∈ ls, NumN x) ∧ (ls.flatMap lineT).length ≤ 1000000000 := by
  obtain ⟨h1, h2, h3⟩ := ms_lines _ _ _ h
  have h4 : ∀ x ∈ ls, NumN x := fun x hx => num_intN (h3 x hx).1 (h3 x hx).2 (by have := masA_mem hx; omega)
  have h5 := told_masA ls h4
  exact ⟨by omega, h4, by omega⟩
end Go.Proofs.YtpjcpdnolcehcaaGreatDoor
