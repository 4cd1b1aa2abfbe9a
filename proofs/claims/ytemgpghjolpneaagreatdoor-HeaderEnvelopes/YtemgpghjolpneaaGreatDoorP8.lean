/- What this text holds: plain facts for the walks of the document's address and addresses: a piece's state after so many marks, pieces between commas, parting at the @ seen so far. -/
import Derived.Test.YtemgpghjolpneaaGreatDoorP7
namespace Go.Proofs.YtemgpghjolpneaaGreatDoor
set_option linter.unusedVariables false
set_option linter.unusedSimpArgs false

/-- A piece's state. -/
def stM (l : List (UInt8 × Nat)) : Mst := l.foldl stepM st0
theorem stM_nil : stM [] = st0 := rfl
theorem stM_take (l : List (UInt8 × Nat)) (k : Nat) (h : k < l.length) : stM (l.take (k + 1)) = stepM (stM (l.take k)) l[k] := by
  rw [List.take_succ_eq_append_getElem h, stM, List.foldl_append]; rfl
theorem step_ang {st : Mst} {m : UInt8 × Nat} (h : m.2 = 2 ∨ m.2 = 3) : stepM st m = (st.1, st.2.1, st.2.2 + 1) := by unfold stepM; rw [if_pos h]; rfl
theorem step_ahead {st : Mst} {m : UInt8 × Nat} (h : m.2 = 0) (h0 : st.2.2 = 0) : stepM st m = (st.1 ++ [m.1], st.2.1, st.2.2) := by
  unfold stepM addM; rw [if_neg (by omega), if_pos h, if_pos h0, h0]
theorem step_in {st : Mst} {m : UInt8 × Nat} (h : m.2 = 0) (h1 : st.2.2 = 1) : stepM st m = (st.1, st.2.1 ++ [m.1], st.2.2) := by
  unfold stepM addM; rw [if_neg (by omega), if_pos h, if_neg (by omega), if_pos h1, h1]
theorem step_out {st : Mst} {m : UInt8 × Nat} (h : m.2 = 0) (h0 : st.2.2 ≠ 0) (h1 : st.2.2 ≠ 1) : stepM st m = st := by
  unfold stepM addM; rw [if_neg (by omega), if_pos h, if_neg h0, if_neg h1]
theorem step_not {st : Mst} {m : UInt8 × Nat} (h0 : m.2 ≠ 0) (h2 : m.2 ≠ 2) (h3 : m.2 ≠ 3) : stepM st m = st := by
  unfold stepM; rw [if_neg (by omega), if_neg h0]
theorem stepM_len (st : Mst) (m : UInt8 × Nat) : (stepM st m).1.length ≤ st.1.length + 1 ∧ (stepM st m).2.1.length ≤ st.2.1.length + 1 ∧ (stepM st m).2.2 ≤ st.2.2 + 1 := by
  unfold stepM incM addM
  split
  · exact ⟨by simp, by simp, by simp⟩
  · split
    · split
      · exact ⟨by simp, by simp, by simp⟩
      · split
        · rename_i h; exact ⟨by simp, by simp, by simp [h]⟩
        · exact ⟨by omega, by omega, by omega⟩
    · exact ⟨by omega, by omega, by omega⟩
theorem stM_len (l : List (UInt8 × Nat)) : ∀ k, k ≤ l.length → (stM (l.take k)).1.length ≤ k ∧ (stM (l.take k)).2.1.length ≤ k ∧ (stM (l.take k)).2.2 ≤ k
  | 0, _ => by simp [stM, st0]
  | k + 1, h => by
    have h1 := stM_len l k (by omega)
    have h2 := stepM_len (stM (l.take k)) (l[k]'(by omega))
    rw [stM_take l k (by omega)]
    omega
/-- The addresses of pieces that a comma ends. -/
def foE : Mst → List (UInt8 × Nat) → List Ad
  | _, [] => []
  | st, m :: l => if m.2 = 4 then em (adM st) ++ foE st0 l else foE (stepM st m) l
theorem foE_end : ∀ (l : List (UInt8 × Nat)) (st : Mst), foE st (l ++ [(44, 4)]) = foM st l
  | [], st => by simp [foE, foM]
  | m :: l, st => by
    rw [List.cons_append, foE, foM]
    split
    · rw [foE_end l]
    · rw [foE_end l]
theorem foE_four (l : List (UInt8 × Nat)) (st : Mst) (i : Nat) (h : i < l.length) (h4 : l[i].2 = 4) : foE st (l.drop i) = em (adM st) ++ foE st0 (l.drop (i + 1)) := by
  rw [List.drop_eq_getElem_cons h, foE, if_pos h4]
theorem foE_not (l : List (UInt8 × Nat)) (p i : Nat) (hp : p ≤ i) (h : i < l.length) (h4 : l[i].2 ≠ 4) : foE (stM ((l.drop p).take (i - p))) (l.drop i) = foE (stM ((l.drop p).take (i + 1 - p))) (l.drop (i + 1)) := by
  have hd : i - p < (l.drop p).length := by rw [List.length_drop]; omega
  have e : (l.drop p)[i - p]'hd = l[i] := by
    rw [List.getElem_drop]; congr 1; omega
  have := stM_take (l.drop p) (i - p) hd
  rw [e] at this
  rw [List.drop_eq_getElem_cons h, foE, if_neg h4, ← this, show i - p + 1 = i + 1 - p by omega]
theorem fo_all (s : Bs) : foE st0 (mk false false 0 s ++ [(44, 4)]) = adsP s := by rw [foE_end, fo_ads _ s (Nat.le_refl _)]
/-- Parted at the last @ of the first k bytes. -/
def partK (name addr : Bs) (k : Nat) : Ad := match lastAt (addr.take k) with
  | none => (name, addr, [])
  | some j => (name, addr.take j, addr.drop (j + 1))
theorem partK_zero (name addr : Bs) : partK name addr 0 = (name, addr, []) := rfl
theorem partK_all (name addr : Bs) : partK name addr addr.length = partedP name addr := by unfold partK partedP; rw [List.take_length]; cases lastAt addr <;> rfl
theorem partK_at (name addr : Bs) (k : Nat) (h : k < addr.length) (hc : addr[k] = 64) : partK name addr (k + 1) = (name, addr.take k, addr.drop (k + 1)) := by
  unfold partK
  rw [List.take_succ_eq_append_getElem h, lastAt_snoc, if_pos hc, List.length_take, Nat.min_eq_left (by omega)]
theorem partK_not (name addr : Bs) (k : Nat) (h : k < addr.length) (hc : addr[k] ≠ 64) : partK name addr (k + 1) = partK name addr k := by
  unfold partK
  rw [List.take_succ_eq_append_getElem h, lastAt_snoc, if_neg hc]
theorem partK_name (name addr : Bs) (k : Nat) : (partK name addr k).1 = name := by
  unfold partK; split <;> rfl
end Go.Proofs.YtemgpghjolpneaaGreatDoor
