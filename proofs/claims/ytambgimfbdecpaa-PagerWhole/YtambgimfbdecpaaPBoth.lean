/- What this text holds: sealing, whatever is sealed. -/
import Derived.Test.YtambgimfbdecpaaPArgs
namespace Go.Proofs.Ytambgimfbdecpaa
open Go.RowKit
set_option linter.unusedVariables false

/-- May a page be so? -/
def okPage (kind gen : Int) : Prop := ((0 ≤ kind ∧ kind ≤ 255) ∧ 0 ≤ gen) ∧ gen ≤ 281474976710655
instance (kind gen : Int) : Decidable (okPage kind gen) := by unfold okPage; infer_instance
def okGen (gen : Int) : Prop := 1 ≤ gen ∧ gen ≤ 4611686018427387904
instance (gen : Int) : Decidable (okGen gen) := by unfold okGen; infer_instance
/-- The error of Seal, and the bytes. -/
def sealE (kind gen : Int) (n : Nat) : Int := if okPage kind gen then (if n ≤ 492 then 0 else 4) else 2
def sealS (kind gen : Int) (c : List Int) : List Int := if sealE kind gen c.length = 0 then sealL kind gen c else []
def rootE (gen : Int) (n : Nat) : Int := if okGen gen then (if n ≤ 490 then 0 else 4) else 2
def rootS (gen : Int) (c : List Int) : List Int := if rootE gen c.length = 0 then rootL gen c else []

theorem sealE_yes {kind gen : Int} {n : Nat} (h : okPage kind gen) (hn : n ≤ 492) : sealE kind gen n = 0 := by simp [sealE, h, hn]
theorem sealE_long {kind gen : Int} {n : Nat} (h : okPage kind gen) (hn : ¬ n ≤ 492) : sealE kind gen n = 4 := by simp [sealE, h, hn]
theorem sealE_arg {kind gen : Int} {n : Nat} (h : ¬ okPage kind gen) : sealE kind gen n = 2 := by simp [sealE, h]
theorem rootE_yes {gen : Int} {n : Nat} (h : okGen gen) (hn : n ≤ 490) : rootE gen n = 0 := by simp [rootE, h, hn]
theorem rootE_long {gen : Int} {n : Nat} (h : okGen gen) (hn : ¬ n ≤ 490) : rootE gen n = 4 := by simp [rootE, h, hn]
theorem rootE_arg {gen : Int} {n : Nat} (h : ¬ okGen gen) : rootE gen n = 2 := by simp [rootE, h]
theorem sealE_zero {kind gen : Int} {n : Nat} (h : sealE kind gen n = 0) : okPage kind gen ∧ n ≤ 492 := by
  by_cases h1 : okPage kind gen
  · by_cases h2 : n ≤ 492
    · exact ⟨h1, h2⟩
    · rw [sealE_long h1 h2] at h; omega
  · rw [sealE_arg h1] at h; omega
theorem rootE_zero {gen : Int} {n : Nat} (h : rootE gen n = 0) : okGen gen ∧ n ≤ 490 := by
  by_cases h1 : okGen gen
  · by_cases h2 : n ≤ 490
    · exact ⟨h1, h2⟩
    · rw [rootE_long h1 h2] at h; omega
  · rw [rootE_arg h1] at h; omega

/-- A slice of bytes, wherever it lies. -/
def SOut (w' : World) (v : Value) (L : List Int) : Prop := ∃ a c, v = .slice a L.length c ∧ BArg w' a L.length c L
theorem sOut_nil (w' : World) : SOut w' (.slice none 0 0) [] := ⟨none, 0, rfl, (fun j x hx => by simp at hx), rfl, (fun x hx => nomatch hx), Nat.le_refl _, Nat.zero_le _⟩
theorem NewB.sOut {w w' : World} {v : Value} {l : List Int} (h : NewB w w' v l) (hl : l.length = 512) (hb : Byt l) : SOut w' v l := by
  obtain ⟨g, c, rfl, hg, _, hba, hc, hc'⟩ := h.all hl
  exact ⟨_, c, by rw [hl], hba, rfl, hb, by rw [hl]; exact hc, hc'⟩

theorem seal_all (kind gen : Int) (s : ByteArray) (w : World) (hm : s.size ≤ maxLen) :
    Calls Try.prog 63 #[.int .i64 kind, .int .i64 gen, .string s] w fun e w' => ∃ v, e = .returned (.tuple #[v, .int .i64 (sealE kind gen s.size)]) ∧ SOut w' v (sealS kind gen (bOf s)) ∧ Below w.heap.size w w' := by
  have hl := bOf_length s
  by_cases h1 : okPage kind gen
  · by_cases h2 : s.size ≤ 492
    · refine (seal_yes kind gen s w h1.1.1.1 h1.1.1.2 h1.1.2 h1.2 h2).mono ?_
      rintro e w' ⟨v, rfl, hv, hb⟩
      have e1 := sealE_yes h1 h2
      refine ⟨v, by rw [e1], ?_, hb⟩
      unfold sealS
      rw [hl, if_pos e1]
      exact hv.sOut (sealL_length _ _ _ (by omega)) (byt_seal _ _ _ (bOf_range s))
    · refine (seal_long kind gen s w hm h1 (by omega)).mono ?_
      rintro e w' ⟨rfl, rfl⟩
      have e1 := sealE_long h1 h2
      refine ⟨_, by rw [e1], ?_, Below.refl _ _⟩
      unfold sealS
      rw [hl, if_neg (by rw [e1]; decide)]
      exact sOut_nil _
  · refine (seal_arg kind gen s w h1).mono ?_
    rintro e w' ⟨rfl, rfl⟩
    have e1 := sealE_arg (n := s.size) h1
    refine ⟨_, by rw [e1], ?_, Below.refl _ _⟩
    unfold sealS
    rw [hl, if_neg (by rw [e1]; decide)]
    exact sOut_nil _
theorem root_all (gen : Int) (s : ByteArray) (w : World) (hm : s.size ≤ maxLen) :
    Calls Try.prog 66 #[.int .i64 gen, .string s] w fun e w' => ∃ v, e = .returned (.tuple #[v, .int .i64 (rootE gen s.size)]) ∧ SOut w' v (rootS gen (bOf s)) ∧ Below w.heap.size w w' := by
  have hl := bOf_length s
  by_cases h1 : okGen gen
  · by_cases h2 : s.size ≤ 490
    · refine (root_yes gen s w h1.1 h1.2 h2).mono ?_
      rintro e w' ⟨v, rfl, hv, hb⟩
      have e1 := rootE_yes h1 h2
      refine ⟨v, by rw [e1], ?_, hb⟩
      unfold rootS
      rw [hl, if_pos e1]
      exact hv.sOut (rootL_length _ _ (by omega)) (byt_root _ _ (bOf_range s))
    · refine (root_long gen s w hm h1 (by omega)).mono ?_
      rintro e w' ⟨rfl, rfl⟩
      have e1 := rootE_long h1 h2
      refine ⟨_, by rw [e1], ?_, Below.refl _ _⟩
      unfold rootS
      rw [hl, if_neg (by rw [e1]; decide)]
      exact sOut_nil _
  · refine (root_arg gen s w h1).mono ?_
    rintro e w' ⟨rfl, rfl⟩
    have e1 := rootE_arg (n := s.size) h1
    refine ⟨_, by rw [e1], ?_, Below.refl _ _⟩
    unfold rootS
    rw [hl, if_neg (by rw [e1]; decide)]
    exact sOut_nil _
end Go.Proofs.Ytambgimfbdecpaa
