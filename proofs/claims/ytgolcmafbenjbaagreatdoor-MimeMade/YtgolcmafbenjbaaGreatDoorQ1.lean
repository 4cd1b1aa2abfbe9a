/- What this text holds: parts lie within one another, one behind the other, and no part has more than 60 (plain facts for the law of places). -/
import Derived.Test.YtgolcmafbenjbaaGreatDoorN25
namespace Go.Proofs.YtgolcmafbenjbaaGreatDoor
set_option linter.unusedVariables false
set_option linter.unusedSimpArgs false

/-- Kids lie one behind the other. -/
def WiL (f : Nat → Nat → Pt → Prop) (b : Nat) : Nat → List Pt → Prop
  | _, [] => True
  | a, k :: ks => f a b k ∧ WiL f b k.d.to ks
/-- A part lies from a place up to another one, with its kids. -/
def Wi : Nat → Nat → Nat → Pt → Prop
  | 0, a, b, p => (a ≤ p.d.hd ∧ p.d.hd ≤ p.d.fr ∧ p.d.fr ≤ p.d.to ∧ p.d.to ≤ b) ∧ p.kids = []
  | n + 1, a, b, p => (a ≤ p.d.hd ∧ p.d.hd ≤ p.d.fr ∧ p.d.fr ≤ p.d.to ∧ p.d.to ≤ b) ∧ p.kids.length ≤ 60 ∧ WiL (Wi n) p.d.to p.d.fr p.kids
theorem kidsF_few (m : Bs) (n : Nat) (dg : Bool) : ∀ (l : List (Nat × Nat)) (k : Nat), k ≤ 60 → (kidsF (tellM m n) dg l k).1.length + k ≤ 60
  | [], k, hk => by simp [kidsF]; exact hk
  | t :: l, k, hk => by
    simp only [kidsF]
    split
    · simpa using hk
    · have h1 := tell_many m n t.1 t.2 dg k (by omega)
      have h2 := kidsF_few m n dg l _ h1.2
      simp only [List.length_cons]
      omega
theorem tell_d (m : Bs) (n a b : Nat) (dg : Bool) (many : Nat) : (tellM m n a b dg many).1.d = partM m a b dg := by
  cases n <;> rfl
theorem wi_tell (m : Bs) : ∀ (n a b lo hi : Nat) (dg : Bool) (many : Nat), lo ≤ a → a ≤ b → b ≤ hi → b ≤ m.length → many ≤ 59 → Wi n lo hi (tellM m n a b dg many).1
  | 0, a, b, lo, hi, dg, many, h1, h2, h3, h4, h5 => by
    have hf := part_fr m a b dg h4 h2
    exact ⟨⟨h1, hf.1, hf.2, h3⟩, rfl⟩
  | n + 1, a, b, lo, hi, dg, many, h1, h2, h3, h4, h5 => by
    have hf := part_fr m a b dg h4 h2
    have hk : ∀ (l : List (Nat × Nat)) (dg : Bool) (k lo hi : Nat), hi ≤ m.length → Rise lo hi l → k ≤ 60 → WiL (Wi n) hi lo (kidsF (tellM m n) dg l k).1 := by
      intro l dg
      induction l with
      | nil => intro k lo hi _ _ _; simp [kidsF, WiL]
      | cons t l ih =>
        intro k lo hi hm hr hk
        simp only [kidsF]
        split
        · simp [WiL]
        · have g := tell_many m n t.1 t.2 dg k (by omega)
          simp only [Rise] at hr
          have hle := hr.2.2.le
          refine ⟨wi_tell m n t.1 t.2 lo hi dg k (by omega) (by omega) (by omega) (by omega) (by omega), ?_⟩
          rw [tell_d]
          exact ih _ _ _ hm (by first | exact hr.2.2.2 | exact hr.2.2) g.2
    refine ⟨⟨h1, hf.1, hf.2, h3⟩, ?_, ?_⟩
    · have := kidsF_few m n (isDig (partM m a b dg)) (textsM m (partM m a b dg)) (many + 1) (by omega)
      simp only [tellM, Pt.kids]
      omega
    · simp only [tellM, Pt.kids, Pt.d]
      exact hk _ _ _ _ _ h4 (texts_rise m a b dg h4 h2) (by omega)
theorem wi_struc (s : Bs) : Wi 7 0 s.length (strucM s) := wi_tell s 7 0 s.length 0 s.length false 0 (by omega) (by omega) (by omega) (by omega) (by omega)
end Go.Proofs.YtgolcmafbenjbaaGreatDoor
