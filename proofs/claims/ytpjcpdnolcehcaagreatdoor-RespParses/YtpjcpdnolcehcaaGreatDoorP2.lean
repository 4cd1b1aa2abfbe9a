/- What this text holds: what is left behind a reading is not longer than what was there. -/
import Derived.Test.YtpjcpdnolcehcaaGreatDoorM7
namespace Go.Proofs.YtpjcpdnolcehcaaGreatDoor
open Go.RowKit
set_option linter.unusedVariables false
set_option linter.unusedSimpArgs false

def Shr {α : Type} (f : Bs → Option (α × Bs)) : Prop := ∀ s v r, f s = some (v, r) → r.length ≤ s.length
theorem needP_le {x s r : Bs} (h : needP x s = some r) : r.length ≤ s.length := by have := (needP_some h).2.2; omega
theorem shr_quoted : Shr quotedP := fun s v r h => by have := quoted_len s.length s v r (Nat.le_refl _) h; omega
theorem shr_counted : Shr countedP := fun s v r h => by
  unfold countedP at h
  split at h
  · cases h
  · rename_i n t hn
    split at h
    · cases h
    · rename_i u hu
      split at h
      · cases h
        have := (numberP_ge hn).2
        have := needP_le hu
        simp
        omega
      · cases h
theorem shr_values {rd : Bs → Option (Vl × Bs)} (h : Shr rd) : ∀ f, Shr (valuesP rd f)
  | 0, s, v, r, hh => by simp [valuesP] at hh
  | f + 1, s, v, r, hh => by
    unfold valuesP at hh
    split at hh
    · cases hh
    · rename_i x t hx
      have h1 := h _ _ _ hx
      split at hh
      · cases hh; exact h1
      · rename_i u hu
        have h2 := needP_le hu
        rw [Option.map_eq_some_iff] at hh
        obtain ⟨p, hp, e⟩ := hh
        cases e
        have := shr_values h f _ _ _ hp
        omega
theorem shr_kid {vs : Bs → Option (List Vl × Bs)} (h : Shr vs) (c : UInt8) : Shr (kidF vs c) := fun s v r hh => by
  unfold kidF at hh
  split at hh
  · rename_i u hu
    cases hh
    exact needP_le hu
  · split at hh
    · cases hh
    · rename_i l u hu
      rw [Option.map_eq_some_iff] at hh
      obtain ⟨p, hp, e⟩ := hh
      cases e
      have := h _ _ _ hu
      have := needP_le hp
      omega
theorem sect_le {x : Bs} {k : Option (List Vl × Bs)} {n : Nat} (hk : ∀ l r, k = some (l, r) → r.length ≤ n) {v : Vl} {r : Bs} (hh : sectP x k = some (v, r)) : r.length ≤ n := by
  unfold sectP at hh
  split at hh
  · cases hh
  · rename_i l u
    have h1 := hk _ _ rfl
    split at hh
    · cases hh; exact h1
    · rename_i t ht
      have h2 := needP_le ht
      split at hh
      · cases hh
      · rename_i m q hq
        have h3 := (numberP_ge hq).2
        rw [Option.map_eq_some_iff] at hh
        obtain ⟨p, hp, e⟩ := hh
        cases e
        have := needP_le hp
        omega
theorem shr_word {kid : UInt8 → Bs → Option (List Vl × Bs)} (h : ∀ c, Shr (kid c)) : Shr (wordP kid) := fun s v r hh => by
  have hd := drop_le letB s
  unfold wordP at hh
  split at hh
  · rename_i t ht
    have h1 := needP_le ht
    exact sect_le (fun l r hl => by have := h _ _ _ _ hl; omega) hh
  · split at hh
    · rw [Option.map_eq_some_iff] at hh
      obtain ⟨p, hp, e⟩ := hh
      cases e
      exact hd
    · split at hh
      · cases hh; exact hd
      · cases hh; exact hd
theorem shr_body {kid : UInt8 → Bs → Option (List Vl × Bs)} (h : ∀ c, Shr (kid c)) : Shr (bodyP kid) := fun s v r hh => by
  unfold bodyP at hh
  split at hh
  · rename_i t ht
    have h1 := needP_le ht
    rw [Option.map_eq_some_iff] at hh
    obtain ⟨p, hp, e⟩ := hh
    cases e
    have := shr_quoted _ _ _ hp
    omega
  · split at hh
    · rename_i t ht
      have h1 := needP_le ht
      rw [Option.map_eq_some_iff] at hh
      obtain ⟨p, hp, e⟩ := hh
      cases e
      have := shr_counted _ _ _ hp
      omega
    · split at hh
      · rename_i t ht
        have h1 := needP_le ht
        rw [Option.map_eq_some_iff] at hh
        obtain ⟨p, hp, e⟩ := hh
        cases e
        have := h _ _ _ _ hp
        omega
      · exact shr_word h _ _ _ hh
theorem shr_value : ∀ d, Shr (valueP d)
  | 0 => fun s v r hh => shr_body (kid := fun _ _ => none) (fun c s v r h => by cases h) s v r hh
  | d + 1 => fun s v r hh => shr_body (fun c => shr_kid (fun s v r h => shr_values (shr_value d) _ _ _ _ h) c) s v r hh
theorem shr_vals (d : Nat) : Shr (valsP d) := fun s v r h => shr_values (shr_value d) _ _ _ _ h
theorem shr_kidP : ∀ (d : Nat) (c : UInt8), Shr (kidP d c)
  | 0, c => fun s v r h => by cases h
  | d + 1, c => shr_kid (fun s v r h => shr_values (shr_value d) _ _ _ _ h) c
theorem kidP_succ (d : Nat) (c : UInt8) (s : Bs) : kidP (d + 1) c s = kidF (valsP d) c s := rfl
end Go.Proofs.YtpjcpdnolcehcaaGreatDoor
