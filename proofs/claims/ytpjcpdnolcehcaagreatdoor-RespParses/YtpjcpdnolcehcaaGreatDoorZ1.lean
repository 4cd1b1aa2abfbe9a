/- What this text holds: what is read is not much more than the bytes that it was read of, and its numbers are Go's. · What this text holds: the document's reading as plain data, and that it reads what the program's reading reads, if that is right. · What this text holds: the document's reading of lines as plain data; it reads what the program reads, if that is right. · What this text holds: both readings read the same, or nothing. · What this text holds: the document's reading of values, step by step; and what is left of a line. · What this text holds: the document's reading of a value, by its first byte. · What this text holds: the document's reading of lines, step by step, and how much it reads. -/
import Derived.Test.YtpjcpdnolcehcaaGreatDoorP7
namespace Go.Proofs.YtpjcpdnolcehcaaGreatDoor
open Go.RowKit
set_option linter.unusedVariables false
set_option linter.unusedSimpArgs false

mutual
def IntV : Vl → Prop
  | .mk k x n kids frm => I64 n ∧ (∀ m ∈ frm, I64 m) ∧ IntL kids
def IntL : List Vl → Prop
  | [] => True
  | v :: l => IntV v ∧ IntL l
end
mutual
theorem num_intV : ∀ v : Vl, IntV v → masV v ≤ 100000000 → NumV v
  | .mk k x n kids frm, h, hm => by
    obtain ⟨h1, h3, h4⟩ := h
    simp only [masV] at hm
    have := len_mas kids
    exact ⟨h1, by omega, h3, num_intL kids h4 (by omega), by omega, by omega⟩
theorem num_intL : ∀ l : List Vl, IntL l → masL l ≤ 100000000 → NumL l
  | [], _, _ => trivial
  | v :: l, h, hm => by
    simp only [masL] at hm
    exact ⟨num_intV v h.1 (by omega), num_intL l h.2 (by omega)⟩
end
theorem atoi_i64 {s : Bs} {n : Int} (h : Go.Lib.atoiAll s = .ok n) : I64 n := by
  unfold Go.Lib.atoiAll at h
  split at h
  · cases h
  · simp only at h
    split at h
    · cases h
    · cases h
    · rename_i u hu
      unfold I64
      split at h
      · cases h
      · split at h
        · cases h
        · split at h <;> (cases h; omega)
theorem num_i64 {s : Bs} {n : Int} (h : numP s = some n) : I64 n := atoi_i64 (numP_some h)
theorem num_ne {s : Bs} {n : Int} (h : numP s = some n) : s ≠ [] := by
  rintro rfl
  have := numP_some h
  simp [Go.Lib.atoiAll] at this
theorem number_i64 {s r : Bs} {n : Int} (h : numberP s = some (n, r)) : I64 n := by
  unfold numberP at h
  rw [Option.map_eq_some_iff] at h
  obtain ⟨m, hm, e⟩ := h
  cases e
  exact num_i64 hm
def MsV (f : Bs → Option (Vl × Bs)) : Prop := ∀ s v r, f s = some (v, r) → masV v + 2 * r.length ≤ 2 * s.length ∧ IntV v
def MsL (f : Bs → Option (List Vl × Bs)) : Prop := ∀ s l r, f s = some (l, r) → masL l + 2 * r.length ≤ 2 * s.length ∧ IntL l
theorem i0 : I64 0 := ⟨by omega, by omega⟩
theorem ms_values {rd : Bs → Option (Vl × Bs)} (h : MsV rd) : ∀ f, MsL (valuesP rd f)
  | 0, s, v, r, hh => by simp [valuesP] at hh
  | f + 1, s, v, r, hh => by
    unfold valuesP at hh
    split at hh
    · cases hh
    · rename_i x t hx
      have h1 := h _ _ _ hx
      split at hh
      · cases hh
        exact ⟨by simp only [masL]; omega, h1.2, trivial⟩
      · rename_i u hu
        have h2 := needP_le hu
        rw [Option.map_eq_some_iff] at hh
        obtain ⟨p, hp, e⟩ := hh
        cases e
        have := ms_values h f _ _ _ hp
        exact ⟨by simp only [masL]; omega, h1.2, this.2⟩
theorem ms_kid {vs : Bs → Option (List Vl × Bs)} (h : MsL vs) (c : UInt8) : MsL (kidF vs c) := fun s v r hh => by
  unfold kidF at hh
  split at hh
  · rename_i u hu
    cases hh
    have := needP_le hu
    exact ⟨by simp only [masL]; omega, trivial⟩
  · split at hh
    · cases hh
    · rename_i l u hu
      rw [Option.map_eq_some_iff] at hh
      obtain ⟨p, hp, e⟩ := hh
      cases e
      have h9 := h _ _ _ hu
      have := needP_le hp
      exact ⟨by omega, h9.2⟩
theorem tw_len (p : UInt8 → Bool) (s : Bs) : (s.takeWhile p).length + (s.dropWhile p).length = s.length := by
  have := congrArg List.length (List.takeWhile_append_dropWhile (p := p) (l := s))
  rw [List.length_append] at this
  omega
theorem ms_sect {x : Bs} {k : Option (List Vl × Bs)} {n : Nat} (hk : ∀ l r, k = some (l, r) → 1 + x.length + masL l + 2 * r.length ≤ n ∧ IntL l) {v : Vl} {r : Bs} (hh : sectP x k = some (v, r)) : masV v + 2 * r.length ≤ n ∧ IntV v := by
  unfold sectP at hh
  split at hh
  · cases hh
  · rename_i l u
    have h1 := hk _ _ rfl
    split at hh
    · cases hh
      exact ⟨by simp only [masV, List.length_nil]; omega, i0, by simp, h1.2⟩
    · rename_i t ht
      have h2 := (needP_some ht).2.2
      simp only [List.length_cons, List.length_nil] at h2
      split at hh
      · cases hh
      · rename_i m q hq
        have h3 := (numberP_ge hq).2
        rw [Option.map_eq_some_iff] at hh
        obtain ⟨p, hp, e⟩ := hh
        cases e
        have := needP_le hp
        exact ⟨by simp only [masV, List.length_cons, List.length_nil]; omega, i0, by simpa using number_i64 hq, h1.2⟩
theorem ms_word {kid : UInt8 → Bs → Option (List Vl × Bs)} (h : ∀ c, MsL (kid c)) : MsV (wordP kid) := fun s v r hh => by
  have hd := tw_len letB s
  unfold wordP at hh
  split at hh
  · rename_i t ht
    have h1 := (needP_some ht).2.2
    simp only [List.length_cons, List.length_nil] at h1
    exact ms_sect (fun l r hl => by have := h _ _ _ _ hl; exact ⟨by omega, this.2⟩) hh
  · split at hh
    · rw [Option.map_eq_some_iff] at hh
      obtain ⟨p, hp, e⟩ := hh
      cases e
      have := List.length_pos_iff.2 (num_ne hp)
      exact ⟨by simp only [masV, masL, List.length_nil]; omega, num_i64 hp, by simp, trivial⟩
    · rename_i h0
      have : (s.takeWhile letB).length ≠ 0 := by
        intro e
        rw [List.eq_nil_of_length_eq_zero e] at h0
        simp at h0
      split at hh
      · cases hh
        exact ⟨by simp only [masV, masL, List.length_nil]; omega, i0, by simp, trivial⟩
      · cases hh
        exact ⟨by simp only [masV, masL, List.length_nil]; omega, i0, by simp, trivial⟩
theorem counted_len {s x r : Bs} (h : countedP s = some (x, r)) : x.length + r.length ≤ s.length := by
  unfold countedP at h
  split at h
  · cases h
  · rename_i n t hn
    split at h
    · cases h
    · rename_i u hu
      split at h
      · rename_i hl
        cases h
        have h1 := numberP_ge hn
        have := needP_le hu
        simp
        omega
      · cases h
theorem ms_body {kid : UInt8 → Bs → Option (List Vl × Bs)} (h : ∀ c, MsL (kid c)) : MsV (bodyP kid) := fun s v r hh => by
  unfold bodyP at hh
  split at hh
  · rename_i t ht
    have h1 := (needP_some ht).2.2
    simp only [List.length_cons, List.length_nil] at h1
    rw [Option.map_eq_some_iff] at hh
    obtain ⟨p, hp, e⟩ := hh
    cases e
    have := quoted_len t.length t p.1 p.2 (Nat.le_refl _) hp
    exact ⟨by simp only [masV, masL, List.length_nil]; omega, i0, by simp, trivial⟩
  · split at hh
    · rename_i t ht
      have h1 := (needP_some ht).2.2
      simp only [List.length_cons, List.length_nil] at h1
      rw [Option.map_eq_some_iff] at hh
      obtain ⟨p, hp, e⟩ := hh
      cases e
      have := counted_len (x := p.1) (r := p.2) hp
      exact ⟨by simp only [masV, masL, List.length_nil]; omega, i0, by simp, trivial⟩
    · split at hh
      · rename_i t ht
        have h1 := (needP_some ht).2.2
        simp only [List.length_cons, List.length_nil] at h1
        rw [Option.map_eq_some_iff] at hh
        obtain ⟨p, hp, e⟩ := hh
        cases e
        have := h _ _ _ _ hp
        exact ⟨by simp only [masV, List.length_nil]; omega, i0, by simp, this.2⟩
      · exact ms_word h _ _ _ hh
theorem ms_value : ∀ d, MsV (valueP d)
  | 0 => fun s v r hh => ms_body (kid := fun _ _ => none) (fun c s v r h => by cases h) s v r hh
  | d + 1 => fun s v r hh => ms_body (fun c => ms_kid (fun s v r h => ms_values (ms_value d) _ _ _ _ h) c) s v r hh
theorem ms_vals (d : Nat) : MsL (valsP d) := fun s v r h => ms_values (ms_value d) _ _ _ _ h
def MsN (l : Ln) (a b : Nat) : Prop := masN l + 2 * b ≤ 2 * a ∧ IntL l.vals ∧ IntL l.code
theorem ms_behind (tag s : Bs) (l : Ln) (r : Bs) (hh : behindP tag s = some (l, r)) : masN l + 2 * r.length ≤ 2 * s.length + tag.length ∧ IntL l.vals ∧ IntL l.code := by
  have hd := tw_len letB s
  unfold behindP at hh
  split at hh
  · split at hh
    · cases hh
      have h2 := tw_len plB ((s.dropWhile letB).drop 1)
      simp only [List.length_drop] at h2
      exact ⟨by simp only [masN, masL]; omega, trivial, trivial⟩
    · rename_i t ht
      have h2 := needP_le ht
      simp only [List.length_drop] at h2
      split at hh
      · cases hh
      · rename_i ks q hq
        have h3 := ms_vals 30 _ _ _ hq
        split at hh
        · cases hh
        · rename_i q2 hq2
          have h4 := needP_le hq2
          split at hh
          · cases hh
          · rename_i q3 hq3
            have h5 := needP_le hq3
            cases hh
            have h6 := tw_len plB q3
            exact ⟨by simp only [masN, masL]; omega, trivial, h3.2⟩
  · rw [Option.map_eq_some_iff] at hh
    obtain ⟨p, hp, e⟩ := hh
    cases e
    have := ms_vals 30 _ _ _ hp
    exact ⟨by simp only [masN, masL, List.length_nil]; omega, this.2, trivial⟩
theorem ms_line (s : Bs) (l : Ln) (r : Bs) (hh : lineP s = some (l, r)) : masN l + 2 * r.length ≤ 2 * s.length ∧ IntL l.vals ∧ IntL l.code := by
  have hd := tw_len letB s
  unfold lineP at hh
  split at hh
  · cases hh
  · rename_i t ht
    have h2 := (needP_some ht).2.2
    simp only [List.length_cons, List.length_nil] at h2
    have key : ∀ (l : Ln) (r : Bs), (if s.takeWhile letB = [43] then some ((⟨[43], [], [], [], t.takeWhile plB⟩ : Ln), t.dropWhile plB) else behindP (s.takeWhile letB) t) = some (l, r) → masN l + 2 * r.length ≤ 2 * s.length ∧ IntL l.vals ∧ IntL l.code := by
      intro l r h
      split at h
      · rename_i he
        cases h
        rw [he] at hd
        have h6 := tw_len plB t
        simp only [List.length_cons, List.length_nil] at hd
        exact ⟨by simp only [masN, masL, List.length_cons, List.length_nil]; omega, trivial, trivial⟩
      · have := ms_behind _ _ _ _ h
        exact ⟨by omega, this.2⟩
    split at hh
    · cases hh
    · rename_i l' r' hl
      have h3 := key l' r' hl
      rw [Option.map_eq_some_iff] at hh
      obtain ⟨p, hp, e⟩ := hh
      cases e
      have := needP_le hp
      exact ⟨by omega, h3.2⟩
theorem ms_lines : ∀ (f : Nat) (s : Bs) (ls : List Ln), linesP f s = some ls → masA ls ≤ 2 * s.length ∧ ls.length ≤ s.length ∧ ∀ l ∈ ls, IntL l.vals ∧ IntL l.code
  | 0, s, ls, h => by simp [linesP] at h
  | f + 1, s, ls, h => by
    unfold linesP at h
    split at h
    · cases h
      exact ⟨by simp [masA], by simp, by simp⟩
    · split at h
      · cases h
      · rename_i l r hl
        have h1 := ms_line _ _ _ hl
        have h2 := shr_line _ _ _ hl
        rw [Option.map_eq_some_iff] at h
        obtain ⟨p, hp, e⟩ := h
        cases e
        have ih := ms_lines f _ _ hp
        refine ⟨by simp only [masA]; omega, by simp only [List.length_cons]; omega, fun m hm => ?_⟩
        rcases List.mem_cons.1 hm with rfl | hm
        · exact h1.2
        · exact ih.2.2 m hm
theorem num_intN {l : Ln} (h1 : IntL l.vals) (h2 : IntL l.code) (hm : masN l ≤ 100000000) : NumN l := by
  unfold masN at hm
  have := len_mas l.vals
  have := len_mas l.code
  exact ⟨num_intL _ h1 (by omega), num_intL _ h2 (by omega), by omega, by omega, by omega, by omega, by omega⟩
/-- What is read of few bytes is not too much. -/
theorem read_small {s : Bs} {ls : List Ln} (hs : s.length ≤ 1000000) (h : linesP (s.length + 1) s = some ls) : ls.length ≤ 1000000000 ∧ (∀ x ∈ ls, NumN x) ∧ (ls.flatMap lineT).length ≤ 1000000000 := by
  obtain ⟨h1, h2, h3⟩ := ms_lines _ _ _ h
  have h4 : ∀ x ∈ ls, NumN x := fun x hx => num_intN (h3 x hx).1 (h3 x hx).2 (by have := masA_mem hx; omega)
  have h5 := told_masA ls h4
  exact ⟨by omega, h4, by omega⟩
end Go.Proofs.YtpjcpdnolcehcaaGreatDoor
namespace Go.Proofs.YtpjcpdnolcehcaaGreatDoor
open Go.RowKit
set_option linter.unusedVariables false
set_option linter.unusedSimpArgs false

def valuesR (rd : Bs → Option (Vl × Bs)) (e : Bs) : Nat → Bs → Option (List Vl × Bs)
  | 0, _ => none
  | f + 1, s => match rd s with
    | none => none
    | some (v, r) => match needP e r with
      | some q => some ([v], q)
      | none => match needP [32] r with
        | none => none
        | some q => (valuesR rd e f q).map fun p => (v :: p.1, p.2)
def allR (rd : Bs → Option (Vl × Bs)) (e s : Bs) : Option (List Vl × Bs) := match needP e s with
  | some r => some ([], r)
  | none => valuesR rd e (s.length + 1) s
def wordR (kid : UInt8 → Bs → Option (List Vl × Bs)) (s : Bs) : Option (Vl × Bs) := if s.takeWhile letB = [] then none else wordP kid s
def bodyR (kid : UInt8 → Bs → Option (List Vl × Bs)) (s : Bs) : Option (Vl × Bs) := match needP [34] s with
  | some r => (quotedP r).map fun p => (.mk 3 p.1 0 [] [], p.2)
  | none => match needP [123] s with
    | some r => (countedP r).map fun p => (.mk 3 p.1 0 [] [], p.2)
    | none => match needP [40] s with
      | some r => (kid 41 r).map fun p => (.mk 4 [] 0 p.1 [], p.2)
      | none => wordR kid s
/-- A value, so many lists deep at the most. -/
def valueR : Nat → Bs → Option (Vl × Bs)
  | 0, _ => none
  | d + 1, s => bodyR (fun e s => allR (valueR d) [e] s) s
theorem need_other {a b : UInt8} {r q : Bs} (h : needP [a] r = some q) (hab : a ≠ b) (t : Bs) : needP (b :: t) r = none := by
  have h1 := (needP_some h).1
  unfold needP
  rw [if_neg]
  intro h2
  cases r with
  | nil => simp at h1
  | cons c r =>
    simp only [List.isPrefixOf, Bool.and_eq_true, beq_iff_eq] at h1 h2
    exact hab (h1.1.trans h2.1.symm)
theorem values_r_of {rd rd' : Bs → Option (Vl × Bs)} {m : Nat} (hrd : ∀ s v r, rd s = some (v, r) → rightB m v = true → rd' s = some (v, r)) (b : UInt8) (t : Bs) (hb : (32 : UInt8) ≠ b) :
    ∀ (f : Nat) (s : Bs) (l : List Vl) (r q : Bs), valuesP rd f s = some (l, r) → rightsB m l = true → needP (b :: t) r = some q → valuesR rd' (b :: t) f s = some (l, q)
  | 0, s, l, r, q, h, _, _ => by simp [valuesP] at h
  | f + 1, s, l, r, q, h, hr, hq => by
    unfold valuesP at h
    unfold valuesR
    split at h
    · cases h
    · rename_i x u hx
      split at h
      · rename_i hn
        cases h
        simp only [rightsB, Bool.and_true] at hr
        rw [hrd _ _ _ hx hr]
        simp only [hq]
      · rename_i w hw
        rw [Option.map_eq_some_iff] at h
        obtain ⟨p, hp, e⟩ := h
        cases e
        simp only [rightsB, Bool.and_eq_true] at hr
        rw [hrd _ _ _ hx hr.1]
        simp only [need_other hw hb t, hw]
        rw [values_r_of hrd b t hb f w p.1 p.2 q hp hr.2 hq]
        rfl
theorem kid_of {rd rd' : Bs → Option (Vl × Bs)} {m : Nat} (hrd : ∀ s v r, rd s = some (v, r) → rightB m v = true → rd' s = some (v, r)) (b : UInt8) (hb : (32 : UInt8) ≠ b) (s : Bs) (l : List Vl) (r : Bs)
    (h : kidF (fun s => valuesP rd (s.length + 1) s) b s = some (l, r)) (hr : rightsB m l = true) : allR rd' [b] s = some (l, r) := by
  unfold kidF at h
  unfold allR
  split at h
  · rename_i u hu
    rw [hu]
    exact h
  · rename_i hu
    rw [hu]
    split at h
    · cases h
    · rename_i l' u hv
      rw [Option.map_eq_some_iff] at h
      obtain ⟨p, hp, e⟩ := h
      cases e
      exact values_r_of hrd b [] hb _ s _ u _ hv hr hp
theorem body_of {kid kid' : UInt8 → Bs → Option (List Vl × Bs)} {m : Nat} (hk : ∀ b s l r, (b = 41 ∨ b = 93) → kid b s = some (l, r) → rightsB (m + 1) l = true → kid' b s = some (l, r)) (s : Bs) (v : Vl) (r : Bs)
    (h : bodyP kid s = some (v, r)) (hr : rightB m v = true) : bodyR kid' s = some (v, r) := by
  unfold bodyP at h
  unfold bodyR
  split at h
  · rename_i t ht
    rw [ht]
    exact h
  · rename_i ht
    rw [ht]
    split at h
    · rename_i t ht2
      rw [ht2]
      exact h
    · rename_i ht2
      rw [ht2]
      split at h
      · rename_i t ht3
        rw [ht3]
        rw [Option.map_eq_some_iff] at h
        obtain ⟨p, hp, e⟩ := h
        cases e
        have hk2 : rightsB (m + 1) p.1 = true := by
          have := (right_kind hr).2
          simp only [Vl.k, Vl.kids] at this
          rcases this with h | h | h | h | h | h
          · omega
          · exact absurd h.1 (by omega)
          · exact absurd h.1 (by omega)
          · omega
          · exact h.2.2
          · exact absurd h.1 (by omega)
        simp only
        rw [hk 41 t p.1 p.2 (.inl rfl) hp hk2]
        rfl
      · rename_i ht3
        rw [ht3]
        simp only
        unfold wordP at h
        unfold wordR wordP
        by_cases hw : s.takeWhile letB = []
        · exfalso
          rw [hw] at h
          split at h
          · rename_i u hu
            have key : ∀ k, sectP [] k = some (v, r) → False := by
              intro k hk
              have hx : v.k = 5 ∧ v.x = [] := by
                unfold sectP at hk
                split at hk
                · cases hk
                · split at hk
                  · cases hk; exact ⟨rfl, rfl⟩
                  · split at hk
                    · cases hk
                    · rw [Option.map_eq_some_iff] at hk
                      obtain ⟨p, hp, e⟩ := hk
                      cases e
                      exact ⟨rfl, rfl⟩
              have := (right_kind hr).2
              rcases this with h | h | h | h | h | h
              · omega
              · omega
              · omega
              · omega
              · omega
              · have ha := h.2.1
                rw [hx.2] at ha
                cases ha
            exact key _ h
          · split at h
            · rw [Option.map_eq_some_iff] at h
              obtain ⟨p, hp, _⟩ := h
              exact num_ne hp rfl
            · rename_i h0
              exact absurd rfl h0
        · rw [if_neg hw]
          split at h
          · rename_i u hu
            unfold sectP at h ⊢
            split at h
            · cases h
            · rename_i l u2 hkid
              have hk2 : rightsB (m + 1) l = true := by
                have hv : v.k = 5 ∧ v.kids = l := by
                  split at h
                  · cases h; exact ⟨rfl, rfl⟩
                  · split at h
                    · cases h
                    · rw [Option.map_eq_some_iff] at h
                      obtain ⟨p, hp, e⟩ := h
                      cases e
                      exact ⟨rfl, rfl⟩
                have := (right_kind hr).2
                rcases this with h | h | h | h | h | h
                · omega
                · omega
                · omega
                · omega
                · omega
                · rw [← hv.2]; exact h.2.2.2.2
              rw [hk 93 u l u2 (.inr rfl) hkid hk2]
              exact h
          · rename_i hu
            exact h
/-- What the program's reading reads, and is right, the document's reading reads. -/
theorem value_of : ∀ (d : Nat) (m : Nat) (s : Bs) (v : Vl) (r : Bs), valueP d s = some (v, r) → rightB m v = true → valueR (d + 1) s = some (v, r)
  | 0, m, s, v, r, h, hr => body_of (kid := fun _ _ => none) (fun b s l r _ h _ => by cases h) s v r h hr
  | d + 1, m, s, v, r, h, hr => by
    have h' : bodyP (kidF fun s => valuesP (valueP d) (s.length + 1) s) s = some (v, r) := h
    exact body_of (m := m) (fun b s l r hb hk hr2 => kid_of (m := m + 1) (fun s v r h1 h2 => value_of d (m + 1) s v r h1 h2) b (by rcases hb with rfl | rfl <;> decide) s l r hk hr2) s v r h' hr
end Go.Proofs.YtpjcpdnolcehcaaGreatDoor
namespace Go.Proofs.YtpjcpdnolcehcaaGreatDoor
open Go.RowKit
set_option linter.unusedVariables false
set_option linter.unusedSimpArgs false

def restR : Bs → Option (Bs × Bs)
  | [] => none
  | c :: r => if ([13, 10] : Bs).isPrefixOf (c :: r) then some ([], r.drop 1) else (restR r).map fun p => (c :: p.1, p.2)
def behindR (tag r : Bs) : Option (Ln × Bs) :=
  if statB (r.takeWhile letB) ∧ [32].isPrefixOf (r.dropWhile letB) then
    match needP [91] ((r.dropWhile letB).drop 1) with
    | none => (restR ((r.dropWhile letB).drop 1)).map fun p => (⟨tag, [], r.takeWhile letB, [], p.1⟩, p.2)
    | some q => match allR (valueR 31) [93] q with
      | none => none
      | some (l, q) => match needP [32] q with
        | none => none
        | some q => (restR q).map fun p => (⟨tag, [], r.takeWhile letB, l, p.1⟩, p.2)
  else (allR (valueR 31) [13, 10] r).map fun p => (⟨tag, p.1, [], [], []⟩, p.2)
def lineR (s : Bs) : Option (Ln × Bs) := if s.takeWhile letB = [] then none else match needP [32] (s.dropWhile letB) with
  | none => none
  | some r => if s.takeWhile letB = [43] then (restR r).map fun p => (⟨[43], [], [], [], p.1⟩, p.2) else behindR (s.takeWhile letB) r
def linesR : Nat → Bs → Option (List Ln)
  | 0, _ => none
  | f + 1, s => if s = [] then some [] else match lineR s with
    | none => none
    | some (l, r) => (linesR f r).map fun p => l :: p
def parseR (s : Bs) : Option (List Ln) := match linesR (s.length + 1) s with
  | none => none
  | some l => if printP l = s then some l else none
theorem rest_of : ∀ (s r : Bs), needP [13, 10] (s.dropWhile plB) = some r → restR s = some (s.takeWhile plB, r)
  | [], r, h => by simp [needP] at h
  | c :: s, r, h => by
    unfold restR
    rcases hc : plB c with _ | _
    · have e1 : (c :: s).dropWhile plB = c :: s := by rw [List.dropWhile_cons, hc]; rfl
      have e2 : (c :: s).takeWhile plB = [] := by rw [List.takeWhile_cons, hc]; rfl
      rw [e1] at h
      have h2 := needP_some h
      rw [if_pos h2.1, e2, h2.2.1]
      rfl
    · have e1 : (c :: s).dropWhile plB = s.dropWhile plB := by rw [List.dropWhile_cons, hc]; rfl
      have e2 : (c :: s).takeWhile plB = c :: s.takeWhile plB := by rw [List.takeWhile_cons, hc]; rfl
      rw [e1] at h
      rw [if_neg, e2, rest_of s r h]
      · rfl
      · intro hp
        simp only [List.isPrefixOf, Bool.and_eq_true, beq_iff_eq] at hp
        rw [← hp.1] at hc
        cases hc
theorem all_of_vals {m : Nat} (b : UInt8) (t : Bs) (hb : (32 : UInt8) ≠ b) {s : Bs} {l : List Vl} {r q : Bs} (h : valsP 30 s = some (l, r)) (hr : rightsB m l = true) (hq : needP (b :: t) r = some q) (hn : needP (b :: t) s = none) : allR (valueR 31) (b :: t) s = some (l, q) := by
  unfold allR
  rw [hn]
  exact values_r_of (fun s v r h1 h2 => value_of 30 m s v r h1 h2) b t hb _ s l r q h hr hq
theorem vals_begin {d : Nat} {s : Bs} {l : List Vl} {r : Bs} {m : Nat} (h : valsP d s = some (l, r)) (hr : rightsB m l = true) (b : UInt8) (t : Bs) (hb : b = 93 ∨ b = 13) : needP (b :: t) s = none := by
  have hv : ∃ v u, valueP d s = some (v, u) ∧ rightB m v = true := by
    unfold valsP valuesP at h
    split at h
    · cases h
    · rename_i x u hx
      refine ⟨x, u, hx, ?_⟩
      split at h
      · cases h
        simp only [rightsB, Bool.and_true] at hr
        exact hr
      · rw [Option.map_eq_some_iff] at h
        obtain ⟨p, hp, e⟩ := h
        cases e
        simp only [rightsB, Bool.and_eq_true] at hr
        exact hr.1
  obtain ⟨v, u, h1, h2⟩ := hv
  have h3 := value_of d m s v u h1 h2
  cases s with
  | nil => rfl
  | cons c s =>
    unfold needP
    rw [if_neg]
    intro hp
    simp only [List.isPrefixOf, Bool.and_eq_true, beq_iff_eq] at hp
    have hc := hp.1
    subst hc
    unfold valueR bodyR at h3
    rw [show needP [34] (b :: s) = none from by unfold needP; rw [if_neg]; rcases hb with rfl | rfl <;> simp [List.isPrefixOf],
      show needP [123] (b :: s) = none from by unfold needP; rw [if_neg]; rcases hb with rfl | rfl <;> simp [List.isPrefixOf],
      show needP [40] (b :: s) = none from by unfold needP; rw [if_neg]; rcases hb with rfl | rfl <;> simp [List.isPrefixOf]] at h3
    simp only at h3
    unfold wordR at h3
    rw [if_pos (by rw [List.takeWhile_cons]; rcases hb with rfl | rfl <;> rfl)] at h3
    cases h3
theorem line_rights {l : Ln} (h : lineB l = true) : l.tag ≠ [] ∧ rightsB 0 l.code = true ∧ rightsB 0 l.vals = true := by
  refine ⟨(tag_parts (line_parts h).1).1, ?_⟩
  obtain ⟨tag, vals, st, code, x⟩ := l
  unfold lineB at h
  simp only [Bool.and_eq_true] at h
  obtain ⟨_, h3⟩ := h
  split at h3
  · simp only [Bool.and_eq_true, beq_iff_eq, List.isEmpty_iff] at h3
    obtain ⟨⟨rfl, rfl⟩, rfl⟩ := h3
    exact ⟨rfl, rfl⟩
  · split at h3
    · simp only [Bool.and_eq_true, List.isEmpty_iff] at h3
      obtain ⟨⟨_, rfl⟩, hr⟩ := h3
      exact ⟨hr, rfl⟩
    · simp only [Bool.and_eq_true, List.isEmpty_iff, beq_iff_eq] at h3
      obtain ⟨⟨rfl, rfl⟩, hr⟩ := h3
      refine ⟨rfl, ?_⟩
      cases vals with
      | nil => rfl
      | cons v vs =>
        unfold someB at hr
        simp only [Bool.and_eq_true] at hr
        exact hr.2
theorem behind_of {tag s : Bs} {l : Ln} {r q : Bs} (h : behindP tag s = some (l, r)) (hc : rightsB 0 l.code = true) (hv : rightsB 0 l.vals = true) (hq : needP [13, 10] r = some q) : behindR tag s = some (l, q) := by
  unfold behindP at h
  unfold behindR
  split at h
  · rename_i hs
    rw [if_pos hs]
    split at h
    · rename_i hn
      cases h
      simp only [hn, rest_of _ _ hq]
      rfl
    · rename_i q1 hn
      simp only [hn]
      split at h
      · cases h
      · rename_i ks r2 hv2
        split at h
        · cases h
        · rename_i r3 h3
          split at h
          · cases h
          · rename_i r4 h4
            cases h
            rw [all_of_vals 93 [] (by decide) hv2 hc h3 (vals_begin hv2 hc 93 [] (.inl rfl))]
            simp only [h4, rest_of _ _ hq]
            rfl
  · rename_i hs
    rw [if_neg hs]
    rw [Option.map_eq_some_iff] at h
    obtain ⟨p, hp, e⟩ := h
    cases e
    rw [all_of_vals 13 [10] (by decide) hp hv hq (vals_begin hp hv 13 [10] (.inr rfl))]
    rfl
theorem line_of {s : Bs} {l : Ln} {r : Bs} (h : lineP s = some (l, r)) (hr : lineB l = true) : lineR s = some (l, r) := by
  obtain ⟨htag, hc, hv⟩ := line_rights hr
  unfold lineP at h
  unfold lineR
  split at h
  · cases h
  · rename_i r1 h1
    by_cases ht : s.takeWhile letB = [43]
    · rw [if_pos ht] at h
      simp only at h
      rw [Option.map_eq_some_iff] at h
      obtain ⟨p, hp, e⟩ := h
      cases e
      rw [if_neg (by rw [ht]; simp), h1]
      simp only [if_pos ht, rest_of _ _ hp]
      rfl
    · rw [if_neg ht] at h
      split at h
      · cases h
      · rename_i l' r' hb
        rw [Option.map_eq_some_iff] at h
        obtain ⟨p, hp, e⟩ := h
        cases e
        have htl : l.tag = s.takeWhile letB := by
          unfold behindP at hb
          split at hb
          · split at hb
            · cases hb; rfl
            · split at hb
              · cases hb
              · split at hb
                · cases hb
                · split at hb
                  · cases hb
                  · cases hb; rfl
          · rw [Option.map_eq_some_iff] at hb
            obtain ⟨p, _, e⟩ := hb
            cases e
            rfl
        rw [if_neg (by rw [← htl]; exact htag), h1]
        simp only [if_neg ht]
        exact behind_of hb hc hv hp
theorem lines_of : ∀ (f : Nat) (s : Bs) (ls : List Ln), linesP f s = some ls → (∀ l ∈ ls, lineB l = true) → linesR f s = some ls
  | 0, s, ls, h, _ => by simp [linesP] at h
  | f + 1, s, ls, h, hr => by
    unfold linesP at h
    unfold linesR
    split at h
    · rename_i h0
      rw [if_pos h0]
      exact h
    · rename_i h0
      rw [if_neg h0]
      split at h
      · cases h
      · rename_i l r hl
        rw [Option.map_eq_some_iff] at h
        obtain ⟨p, hp, e⟩ := h
        cases e
        rw [line_of hl (hr l (by simp))]
        simp only
        rw [lines_of f r p hp (fun x hx => hr x (by simp [hx]))]
        rfl
theorem print_right {ls : List Ln} {s : Bs} (h : printP ls = s) (h0 : s ≠ []) : ∀ l ∈ ls, lineB l = true := by
  unfold printP at h
  split at h
  · rename_i ha
    exact List.all_eq_true.1 ha
  · exact absurd h.symm h0
/-- What the program's reading reads, the document's reads. -/
theorem parse_sub {s : Bs} {ls : List Ln} (h : parseP s = some ls) : parseR s = some ls := by
  unfold parseP at h
  split at h
  · cases h
  · rename_i l hl
    split at h
    · rename_i hp
      cases h
      have key : linesR (s.length + 1) s = some ls := by
        by_cases h0 : s = []
        · subst h0
          have : ls = [] := by
            have := hl
            simp [linesP] at this
            exact this
          subst this
          rfl
        · exact lines_of _ _ _ hl (print_right hp h0)
      unfold parseR
      rw [key]
      simp only [if_pos hp]
    · cases h
end Go.Proofs.YtpjcpdnolcehcaaGreatDoor
namespace Go.Proofs.YtpjcpdnolcehcaaGreatDoor
open Go.RowKit
set_option linter.unusedVariables false
set_option linter.unusedSimpArgs false

theorem ms_valuesR {rd : Bs → Option (Vl × Bs)} (h : MsV rd) (e : Bs) : ∀ f, MsL (valuesR rd e f)
  | 0, s, v, r, hh => by simp [valuesR] at hh
  | f + 1, s, v, r, hh => by
    unfold valuesR at hh
    split at hh
    · cases hh
    · rename_i x t hx
      have h1 := h _ _ _ hx
      split at hh
      · rename_i q hq
        have := needP_le hq
        cases hh
        exact ⟨by simp only [masL]; omega, h1.2, trivial⟩
      · split at hh
        · cases hh
        · rename_i u hu
          have h2 := needP_le hu
          rw [Option.map_eq_some_iff] at hh
          obtain ⟨p, hp, e⟩ := hh
          cases e
          have := ms_valuesR h _ f _ _ _ hp
          exact ⟨by simp only [masL]; omega, h1.2, this.2⟩
theorem ms_allR {rd : Bs → Option (Vl × Bs)} (h : MsV rd) (e : Bs) : MsL (allR rd e) := fun s v r hh => by
  unfold allR at hh
  split at hh
  · rename_i u hu
    cases hh
    have := needP_le hu
    exact ⟨by simp only [masL]; omega, trivial⟩
  · exact ms_valuesR h e _ _ _ _ hh
theorem ms_bodyR {kid : UInt8 → Bs → Option (List Vl × Bs)} (h : ∀ c, MsL (kid c)) : MsV (bodyR kid) := fun s v r hh => by
  unfold bodyR at hh
  split at hh
  · rename_i t ht
    have h1 := (needP_some ht).2.2
    simp only [List.length_cons, List.length_nil] at h1
    rw [Option.map_eq_some_iff] at hh
    obtain ⟨p, hp, e⟩ := hh
    cases e
    have := quoted_len t.length t p.1 p.2 (Nat.le_refl _) hp
    exact ⟨by simp only [masV, masL, List.length_nil]; omega, i0, by simp, trivial⟩
  · split at hh
    · rename_i t ht
      have h1 := (needP_some ht).2.2
      simp only [List.length_cons, List.length_nil] at h1
      rw [Option.map_eq_some_iff] at hh
      obtain ⟨p, hp, e⟩ := hh
      cases e
      have := counted_len (x := p.1) (r := p.2) hp
      exact ⟨by simp only [masV, masL, List.length_nil]; omega, i0, by simp, trivial⟩
    · split at hh
      · rename_i t ht
        have h1 := (needP_some ht).2.2
        simp only [List.length_cons, List.length_nil] at h1
        rw [Option.map_eq_some_iff] at hh
        obtain ⟨p, hp, e⟩ := hh
        cases e
        have := h _ _ _ _ hp
        exact ⟨by simp only [masV, List.length_nil]; omega, i0, by simp, this.2⟩
      · unfold wordR at hh
        split at hh
        · cases hh
        · exact ms_word h _ _ _ hh
theorem ms_valueR : ∀ d, MsV (valueR d)
  | 0 => fun s v r hh => by simp [valueR] at hh
  | d + 1 => fun s v r hh => ms_bodyR (fun c => ms_allR (ms_valueR d) [c]) s v r hh
theorem ms_rest : ∀ (s x r : Bs), restR s = some (x, r) → x.length + r.length ≤ s.length
  | [], x, r, h => by simp [restR] at h
  | c :: s, x, r, h => by
    unfold restR at h
    split at h
    · cases h
      simp
      omega
    · rw [Option.map_eq_some_iff] at h
      obtain ⟨p, hp, e⟩ := h
      cases e
      have := ms_rest s p.1 p.2 hp
      simp only [List.length_cons]
      omega
theorem ms_behindR (tag s : Bs) (l : Ln) (r : Bs) (hh : behindR tag s = some (l, r)) : masN l + 2 * r.length ≤ 2 * s.length + tag.length ∧ IntL l.vals ∧ IntL l.code := by
  have hd := tw_len letB s
  unfold behindR at hh
  split at hh
  · split at hh
    · rw [Option.map_eq_some_iff] at hh
      obtain ⟨p, hp, e⟩ := hh
      cases e
      have h2 := ms_rest _ _ _ hp
      simp only [List.length_drop] at h2
      exact ⟨by simp only [masN, masL]; omega, trivial, trivial⟩
    · rename_i t ht
      have h2 := needP_le ht
      simp only [List.length_drop] at h2
      split at hh
      · cases hh
      · rename_i ks q hq
        have h3 := ms_allR (ms_valueR 31) _ _ _ _ hq
        split at hh
        · cases hh
        · rename_i q2 hq2
          have h4 := needP_le hq2
          rw [Option.map_eq_some_iff] at hh
          obtain ⟨p, hp, e⟩ := hh
          cases e
          have h6 := ms_rest _ _ _ hp
          exact ⟨by simp only [masN, masL]; omega, trivial, h3.2⟩
  · rw [Option.map_eq_some_iff] at hh
    obtain ⟨p, hp, e⟩ := hh
    cases e
    have := ms_allR (ms_valueR 31) _ _ _ _ hp
    exact ⟨by simp only [masN, masL, List.length_nil]; omega, this.2, trivial⟩
theorem ms_lineR (s : Bs) (l : Ln) (r : Bs) (hh : lineR s = some (l, r)) : masN l + 2 * r.length ≤ 2 * s.length ∧ IntL l.vals ∧ IntL l.code := by
  have hd := tw_len letB s
  unfold lineR at hh
  split at hh
  · cases hh
  · split at hh
    · cases hh
    · rename_i t ht
      have h2 := (needP_some ht).2.2
      simp only [List.length_cons, List.length_nil] at h2
      split at hh
      · rename_i he
        rw [he] at hd
        rw [Option.map_eq_some_iff] at hh
        obtain ⟨p, hp, e⟩ := hh
        cases e
        have h6 := ms_rest _ _ _ hp
        simp only [List.length_cons, List.length_nil] at hd
        exact ⟨by simp only [masN, masL, List.length_cons, List.length_nil]; omega, trivial, trivial⟩
      · have := ms_behindR _ _ _ _ hh
        exact ⟨by omega, this.2⟩
theorem ms_linesR : ∀ (f : Nat) (s : Bs) (ls : List Ln), linesR f s = some ls → ∀ l ∈ ls, masN l ≤ 2 * s.length ∧ IntL l.vals ∧ IntL l.code
  | 0, s, ls, h => by simp [linesR] at h
  | f + 1, s, ls, h => by
    unfold linesR at h
    split at h
    · cases h
      simp
    · split at h
      · cases h
      · rename_i l r hl
        have h1 := ms_lineR _ _ _ hl
        rw [Option.map_eq_some_iff] at h
        obtain ⟨p, hp, e⟩ := h
        cases e
        have ih := ms_linesR f _ _ hp
        intro m hm
        rcases List.mem_cons.1 hm with rfl | hm
        · exact ⟨by omega, h1.2⟩
        · have := ih m hm
          exact ⟨by omega, this.2⟩
/-- Both readings are the same. -/
theorem parse_same {s : Bs} (hs : s.length ≤ 1000000) : parseR s = parseP s := by
  rcases hp : parseP s with _ | ls
  · rcases hr : parseR s with _ | ls
    · rfl
    · exfalso
      unfold parseR at hr
      split at hr
      · cases hr
      · rename_i l hl
        split at hr
        · rename_i hpr
          cases hr
          have hn : ∀ x ∈ ls, NumN x := fun x hx => by
            have := ms_linesR _ _ _ hl x hx
            exact num_intN this.2.1 this.2.2 (by omega)
          by_cases h0 : s = []
          · subst h0
            simp [parseP, linesP, printP] at hp
          · have hpb := parse_back ls (fun x hx => ⟨print_right hpr h0 x hx, hn x hx⟩)
            rw [hpr] at hpb
            unfold parseP at hp
            rw [hpb.1] at hp
            simp only [if_pos hpr] at hp
            cases hp
        · cases hr
  · exact parse_sub hp
end Go.Proofs.YtpjcpdnolcehcaaGreatDoor
namespace Go.Proofs.YtpjcpdnolcehcaaGreatDoor
open Go.RowKit
set_option linter.unusedVariables false
set_option linter.unusedSimpArgs false

/-- What is read in all, when some values have been read. -/
def goR (rd : Bs → Option (Vl × Bs)) (e : Bs) (f : Nat) (l : List Vl) (s : Bs) : Option (List Vl × Bs) := (valuesR rd e f s).map fun p => (l ++ p.1, p.2)
theorem goR_start (rd : Bs → Option (Vl × Bs)) (e s : Bs) (h : needP e s = none) : allR rd e s = goR rd e (s.length + 1) [] s := by
  unfold allR goR
  rw [h]
  simp
theorem goR_none {rd : Bs → Option (Vl × Bs)} {e s : Bs} {f : Nat} {l : List Vl} (h : rd s = none) : goR rd e (f + 1) l s = none := by
  unfold goR valuesR
  rw [h]
  rfl
theorem goR_end {rd : Bs → Option (Vl × Bs)} {e s r q : Bs} {f : Nat} {l : List Vl} {v : Vl} (h : rd s = some (v, r)) (hq : needP e r = some q) : goR rd e (f + 1) l s = some (l ++ [v], q) := by
  unfold goR valuesR
  rw [h]
  simp only [hq]
  rfl
theorem goR_bad {rd : Bs → Option (Vl × Bs)} {e s r : Bs} {f : Nat} {l : List Vl} {v : Vl} (h : rd s = some (v, r)) (hq : needP e r = none) (h2 : needP [32] r = none) : goR rd e (f + 1) l s = none := by
  unfold goR valuesR
  rw [h]
  simp only [hq, h2]
  rfl
theorem goR_step {rd : Bs → Option (Vl × Bs)} {e s r q : Bs} {f : Nat} {l : List Vl} {v : Vl} (h : rd s = some (v, r)) (hq : needP e r = none) (h2 : needP [32] r = some q) : goR rd e (f + 1) l s = goR rd e f (l ++ [v]) q := by
  unfold goR
  rw [show valuesR rd e (f + 1) s = (valuesR rd e f q).map fun p => (v :: p.1, p.2) by
    conv => lhs; unfold valuesR
    rw [h]
    simp only [hq, h2]]
  rw [Option.map_map]
  congr 1
  funext p
  simp
theorem need_drop {e s r : Bs} {k : Nat} (hk : k ≤ s.length) (h : needP e (s.drop k) = some r) : e.isPrefixOf (s.drop k) = true ∧ k + e.length ≤ s.length ∧ s.drop (k + e.length) = r := by
  have h1 := needP_some h
  refine ⟨h1.1, ?_, ?_⟩
  · have := h1.2.2
    rw [List.length_drop] at this
    omega
  · rw [← List.drop_drop]
    unfold needP at h
    rw [if_pos h1.1] at h
    exact Option.some.inj h
theorem need_pre {e s : Bs} (h : needP e s = none) : e.isPrefixOf s = false := by
  unfold needP at h
  split at h
  · cases h
  · rename_i hp
    exact Bool.eq_false_iff.2 hp
theorem rest_suf : ∀ (s x r : Bs), restR s = some (x, r) → r <:+ s
  | [], x, r, h => by simp [restR] at h
  | c :: s, x, r, h => by
    unfold restR at h
    split at h
    · cases h
      exact (List.drop_suffix 1 s).trans (List.suffix_cons c s)
    · rw [Option.map_eq_some_iff] at h
      obtain ⟨p, hp, e⟩ := h
      cases e
      exact (rest_suf s p.1 p.2 hp).trans (List.suffix_cons c s)
theorem rest_at {s x r : Bs} {i : Nat} (h : restR (s.drop i) = some (x, r)) : ∃ k : Nat, k ≤ s.length ∧ s.drop k = r ∧ (s.length : Int) - (r.length : Nat) = (k : Int) := by
  have h1 : r <:+ s := (rest_suf _ _ _ h).trans (List.drop_suffix i s)
  have h2 := h1.length_le
  refine ⟨s.length - r.length, by omega, (List.suffix_iff_eq_drop.1 h1).symm, by omega⟩
end Go.Proofs.YtpjcpdnolcehcaaGreatDoor
namespace Go.Proofs.YtpjcpdnolcehcaaGreatDoor
open Go.RowKit
set_option linter.unusedVariables false
set_option linter.unusedSimpArgs false

theorem need_one (a c : UInt8) (t : Bs) : needP [a] (c :: t) = if a = c then some t else none := by
  unfold needP
  by_cases h : a = c
  · subst h
    simp [List.isPrefixOf]
  · rw [if_neg h, if_neg]
    simp [List.isPrefixOf, h]
theorem body_nil (kid : UInt8 → Bs → Option (List Vl × Bs)) : bodyR kid [] = none := by
  unfold bodyR wordR
  simp [needP]
theorem body_34 (kid : UInt8 → Bs → Option (List Vl × Bs)) (t : Bs) : bodyR kid (34 :: t) = (quotedP t).map fun p => (.mk 3 p.1 0 [] [], p.2) := by
  unfold bodyR
  rw [need_one]
  rfl
theorem body_123 (kid : UInt8 → Bs → Option (List Vl × Bs)) (t : Bs) : bodyR kid (123 :: t) = (countedP t).map fun p => (.mk 3 p.1 0 [] [], p.2) := by
  unfold bodyR
  rw [need_one, need_one]
  rfl
theorem body_40 (kid : UInt8 → Bs → Option (List Vl × Bs)) (t : Bs) : bodyR kid (40 :: t) = (kid 41 t).map fun p => (.mk 4 [] 0 p.1 [], p.2) := by
  unfold bodyR
  rw [need_one, need_one, need_one]
  rfl
theorem body_wordR (kid : UInt8 → Bs → Option (List Vl × Bs)) (c : UInt8) (t : Bs) (h1 : c ≠ 34) (h2 : c ≠ 123) (h3 : c ≠ 40) : bodyR kid (c :: t) = wordR kid (c :: t) := by
  unfold bodyR
  rw [need_one, need_one, need_one, if_neg (Ne.symm h1), if_neg (Ne.symm h2), if_neg (Ne.symm h3)]
theorem valueR_succ (d : Nat) (s : Bs) : valueR (d + 1) s = bodyR (fun e s => allR (valueR d) [e] s) s := rfl
theorem tw_take (p : UInt8 → Bool) (u : Bs) : u.take (u.takeWhile p).length = u.takeWhile p := by
  conv => lhs; arg 2; rw [← List.takeWhile_append_dropWhile (p := p) (l := u)]
  rw [List.take_left]
theorem tw_drop (p : UInt8 → Bool) (u : Bs) : u.drop (u.takeWhile p).length = u.dropWhile p := by
  conv => lhs; arg 2; rw [← List.takeWhile_append_dropWhile (p := p) (l := u)]
  rw [List.drop_left]
theorem tw_at (p : UInt8 → Bool) (s : Bs) (i : Nat) : ((s.drop i).take ((s.drop i).takeWhile p).length) = (s.drop i).takeWhile p ∧ s.drop (i + ((s.drop i).takeWhile p).length) = (s.drop i).dropWhile p := by
  refine ⟨tw_take p _, ?_⟩
  rw [← List.drop_drop, tw_drop]
theorem tw_bound (p : UInt8 → Bool) (s : Bs) (i : Nat) (hi : i ≤ s.length) : i + ((s.drop i).takeWhile p).length ≤ s.length := by
  have := tw_len p (s.drop i)
  rw [List.length_drop] at this
  omega
end Go.Proofs.YtpjcpdnolcehcaaGreatDoor
namespace Go.Proofs.YtpjcpdnolcehcaaGreatDoor
open Go.RowKit
set_option linter.unusedVariables false
set_option linter.unusedSimpArgs false

def goL (f : Nat) (l : List Ln) (s : Bs) : Option (List Ln) := (linesR f s).map fun p => l ++ p
theorem goL_start (f : Nat) (s : Bs) : linesR f s = goL f [] s := by
  unfold goL
  simp
theorem goL_end {f : Nat} {l : List Ln} : goL (f + 1) l [] = some l := by
  unfold goL linesR
  simp
theorem goL_none {f : Nat} {l : List Ln} {s : Bs} (h0 : s ≠ []) (h : lineR s = none) : goL (f + 1) l s = none := by
  unfold goL linesR
  rw [if_neg h0, h]
  rfl
theorem goL_step {f : Nat} {l : List Ln} {s r : Bs} {v : Ln} (h0 : s ≠ []) (h : lineR s = some (v, r)) : goL (f + 1) l s = goL f (l ++ [v]) r := by
  unfold goL
  rw [show linesR (f + 1) s = (linesR f r).map fun p => v :: p by
    conv => lhs; unfold linesR
    rw [if_neg h0, h]]
  rw [Option.map_map]
  congr 1
  funext p
  simp
theorem line_lt {s : Bs} {l : Ln} {r : Bs} (h : lineR s = some (l, r)) : r.length < s.length := by
  have hd := tw_len letB s
  unfold lineR at h
  split at h
  · cases h
  · split at h
    · cases h
    · rename_i h0 t ht
      have h2 := (needP_some ht).2.2
      simp only [List.length_cons, List.length_nil] at h2
      split at h
      · rw [Option.map_eq_some_iff] at h
        obtain ⟨p, hp, e⟩ := h
        cases e
        have h6 := ms_rest _ _ _ hp
        omega
      · have h6 := (ms_behindR _ _ _ _ h).1
        omega
theorem ms_linesA : ∀ (f : Nat) (s : Bs) (ls : List Ln), linesR f s = some ls → masA ls ≤ 2 * s.length ∧ ls.length ≤ s.length
  | 0, s, ls, h => by simp [linesR] at h
  | f + 1, s, ls, h => by
    unfold linesR at h
    split at h
    · cases h
      simp [masA]
    · split at h
      · cases h
      · rename_i l r hl
        have h1 := (ms_lineR _ _ _ hl).1
        have h2 := line_lt hl
        rw [Option.map_eq_some_iff] at h
        obtain ⟨p, hp, e⟩ := h
        cases e
        have ih := ms_linesA f _ _ hp
        simp only [masA, List.length_cons]
        omega
theorem readR_small {s : Bs} {ls : List Ln} (hs : s.length ≤ 1000000) (h : linesR (s.length + 1) s = some ls) : ls.length ≤ 1000000000 ∧ (∀ x ∈ ls, NumN x) ∧ (ls.flatMap lineT).length ≤ 1000000000 := by
  obtain ⟨h1, h2⟩ := ms_linesA _ _ _ h
  have h3 := ms_linesR _ _ _ h
  have h4 : ∀ x ∈ ls, NumN x := fun x hx => num_intN (h3 x hx).2.1 (h3 x hx).2.2 (by have := (h3 x hx).1; omega)
  have h5 := told_masA ls h4
  exact ⟨by omega, h4, by omega⟩
end Go.Proofs.YtpjcpdnolcehcaaGreatDoor
