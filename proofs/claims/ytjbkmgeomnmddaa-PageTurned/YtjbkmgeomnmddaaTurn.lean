/- What this text holds: a page's sector of which one byte is another one is none. -/
import Derived.Test.YtjbkmgeomnmddaaOwn
namespace Go.Proofs.Ytjbkmgeomnmddaa
open Go.RowKit
set_option linter.unusedVariables false

/-- The sum that bytes tell, and the one that they have. -/
def told (l : List Int) : Int := val ((l.drop 12).take 4)
def bare (l : List Int) : List Int := splice l 12 (rep 4 0)
theorem seal_told (kind gen : Int) (c : List Int) (h : c.length ≤ 492) : told (sealL kind gen c) = sumL (bare (sealL kind gen c)) := by
  have e1 : told (sealL kind gen c) = sumL (bareL kind gen c) := by
    unfold told sealL
    rw [mid _ _ _ (headL_length _ _ _) (numB_length _ _)]
    exact val_numB' _ _ (sumL_nonneg _) (by have := sumL_lt (bareL kind gen c); omega)
  have e2 : bare (sealL kind gen c) = bareL kind gen c := by
    unfold bare splice
    rw [rep_length]
    unfold sealL
    generalize sumL (bareL kind gen c) = s
    unfold bareL
    have h12 := headL_length kind gen c.length
    rw [List.take_append_of_le_length (by omega), List.take_of_length_le (by omega), List.drop_append, List.drop_of_length_le (by omega), List.nil_append, h12,
      List.drop_append, List.drop_of_length_le (by rw [numB_length]; omega), List.nil_append, numB_length, show 12 + 4 - 12 - 4 = 0 from rfl, List.drop_zero, ← List.append_assoc (rep 4 0), show rep 4 0 ++ rep 4 0 = rep 8 0 from rfl]
  rw [e1, e2]
theorem page_told {l : List Int} (h : isPage l) : told l = sumL (bare l) := by
  have := seal_told (kindOf l) (genOf l) (conOf l) (conOf_length h.1)
  rwa [h.2] at this

theorem sumRaw_set (l : List Int) : ∀ (m k : Nat) (x : Int) (hk : k < l.length), sumRaw m (l.set k x) = sumRaw m l + ((m + k : Nat) + 1) * (x - l[k]) := by
  induction l with
  | nil => intro m k x hk; simp at hk
  | cons y l ih =>
    intro m k x hk
    cases k with
    | zero =>
      simp only [List.set_cons_zero, sumRaw, List.getElem_cons_zero, Nat.add_zero, Int.mul_sub]
      omega
    | succ k =>
      simp only [List.set_cons_succ, sumRaw, List.getElem_cons_succ]
      rw [ih (m + 1) k x (by simpa using hk), show m + 1 + k = m + (k + 1) by omega]
      omega
theorem prod_small (k : Nat) (d : Int) (hk : k < 512) (h0 : d ≠ 0) (h1 : -255 ≤ d) (h2 : d ≤ 255) : ((k : Int) + 1) * d % 4294967296 ≠ 0 := by
  have hne : ((k : Int) + 1) * d ≠ 0 := Int.mul_ne_zero (by omega) h0
  have hab : (((k : Int) + 1) * d).natAbs ≤ 512 * 255 := by
    rw [Int.natAbs_mul]
    exact Nat.mul_le_mul (by omega) (by omega)
  generalize ((k : Int) + 1) * d = p at hne hab
  omega

theorem field4 (l : List Int) (hl : l.length = 512) : (l.drop 12).take 4 = [l.getD 12 0, l.getD 13 0, l.getD 14 0, l.getD 15 0] := by
  apply List.ext_getElem?
  intro j
  rw [List.getElem?_take, List.getElem?_drop]
  rcases j with _ | _ | _ | _ | j
  · simp [List.getD_eq_getElem?_getD, List.getElem?_eq_getElem (show 12 < l.length by omega)]
  · simp [List.getD_eq_getElem?_getD, List.getElem?_eq_getElem (show 13 < l.length by omega)]
  · simp [List.getD_eq_getElem?_getD, List.getElem?_eq_getElem (show 14 < l.length by omega)]
  · simp [List.getD_eq_getElem?_getD, List.getElem?_eq_getElem (show 15 < l.length by omega)]
  · rw [if_neg (by omega)]; simp
theorem getD_set (l : List Int) (k j : Nat) (x : Int) (hk : k < l.length) : (l.set k x).getD j 0 = if j = k then x else l.getD j 0 := by
  rw [List.getD_eq_getElem?_getD, List.getD_eq_getElem?_getD, List.getElem?_set]
  by_cases h : k = j
  · subst h; simp [hk]
  · rw [if_neg h, if_neg (fun e => h e.symm)]
theorem told_eq (l : List Int) (hl : l.length = 512) : told l = ((l.getD 12 0 * 256 + l.getD 13 0) * 256 + l.getD 14 0) * 256 + l.getD 15 0 := by
  unfold told
  rw [field4 l hl]
  simp [val]
theorem bare_at (l : List Int) (hl : l.length = 512) (j : Nat) : (bare l)[j]? = if 12 ≤ j ∧ j < 16 then some 0 else l[j]? := by
  unfold bare splice
  rw [rep_length]
  by_cases h1 : j < 12
  · rw [List.getElem?_append_left (by simp [hl]; omega), List.getElem?_take, if_pos h1, if_neg (by omega)]
  · rw [List.getElem?_append_right (by simp; omega), List.length_take, Nat.min_eq_left (by omega)]
    by_cases h2 : j < 16
    · rw [List.getElem?_append_left (by rw [rep_length]; omega), if_pos (by omega)]
      unfold rep
      rw [List.getElem?_replicate, if_pos (by omega)]
    · rw [List.getElem?_append_right (by rw [rep_length]; omega), rep_length, List.getElem?_drop, if_neg (by omega)]
      congr 1
      omega
theorem bare_len (l : List Int) (hl : l.length = 512) : (bare l).length = 512 := by
  unfold bare
  rw [length_splice _ _ _ (by rw [rep_length]; omega)]
  exact hl

theorem turned_no {l : List Int} (h : isPage l) (hb : Byt l) (k : Nat) (hk : k < 512) (x : Int) (hx : 0 ≤ x ∧ x < 256) (hne : x ≠ l.getD k 0) : ¬ isPage (l.set k x) := by
  intro h'
  have hl := h.1
  have hkl : k < l.length := by omega
  have hl' : (l.set k x).length = 512 := by rw [List.length_set]; exact hl
  have t1 := page_told h
  have t2 := page_told h'
  have hold : l[k] = l.getD k 0 := by rw [List.getD_eq_getElem?_getD, List.getElem?_eq_getElem hkl]; rfl
  have hob : 0 ≤ l.getD k 0 ∧ l.getD k 0 < 256 := by rw [← hold]; exact hb _ (List.getElem_mem hkl)
  by_cases hr : 12 ≤ k ∧ k < 16
  · have e : bare (l.set k x) = bare l := by
      apply List.ext_getElem?
      intro j
      rw [bare_at _ hl', bare_at _ hl, List.getElem?_set]
      by_cases hj : 12 ≤ j ∧ j < 16
      · rw [if_pos hj, if_pos hj]
      · rw [if_neg hj, if_neg hj, if_neg (by omega)]
    rw [e, ← t1, told_eq _ hl', told_eq _ hl] at t2
    simp only [getD_set _ _ _ _ hkl] at t2
    have hk4 : k = 12 ∨ k = 13 ∨ k = 14 ∨ k = 15 := by omega
    rcases hk4 with rfl | rfl | rfl | rfl <;> simp at t2 hne hob <;> omega
  · have e : bare (l.set k x) = (bare l).set k x := by
      apply List.ext_getElem?
      intro j
      rw [bare_at _ hl', List.getElem?_set, List.getElem?_set, bare_at _ hl, bare_len _ hl, hl]
      by_cases hj : 12 ≤ j ∧ j < 16
      · rw [if_pos hj, if_neg (by omega), if_pos hj]
      · rw [if_neg hj, if_neg hj]
    have hbk : (bare l)[k]'(by rw [bare_len _ hl]; exact hk) = l.getD k 0 := by
      have := bare_at l hl k
      rw [if_neg hr, List.getElem?_eq_getElem (by rw [bare_len _ hl]; exact hk), List.getElem?_eq_getElem hkl] at this
      rw [Option.some.inj this, hold]
    have et : told (l.set k x) = told l := by
      rw [told_eq _ hl', told_eq _ hl]
      simp only [getD_set _ _ _ _ hkl]
      rw [if_neg (by omega), if_neg (by omega), if_neg (by omega), if_neg (by omega)]
    rw [et, t1, e] at t2
    unfold sumL at t2
    rw [sumRaw_set _ 0 k x (by rw [bare_len _ hl]; exact hk), hbk, Nat.zero_add] at t2
    have hp := prod_small k (x - l.getD k 0) hk (by omega) (by omega) (by omega)
    generalize ((k : Int) + 1) * (x - l.getD k 0) = p at t2 hp
    omega

theorem at_range (at_ : Int) : ∃ k : Nat, k < 512 ∧ (wrap64 (at_.tmod 512 + 512)).tmod 512 = (k : Int) := by
  have h1 := Int.tmod_lt_of_pos at_ (show (0 : Int) < 512 by decide)
  have h2 := Int.lt_tmod_of_pos at_ (show (0 : Int) < 512 by decide)
  rw [wrap64_fits _ (by omega) (by omega), Int.tmod_eq_emod_of_nonneg (by omega)]
  refine ⟨((at_.tmod 512 + 512) % 512).toNat, by omega, by omega⟩
theorem xor_byte (a b : Int) (ha : 0 ≤ a ∧ a < 256) (hb : 0 ≤ b ∧ b ≤ 255) (h0 : b ≠ 0) : (0 ≤ bits .xor .u8 a b ∧ bits .xor .u8 a b < 256) ∧ bits .xor .u8 a b ≠ a := by
  rw [u8_xor a b ha.1 ha.2 hb.1 (by omega)]
  have hlt : a.toNat ^^^ b.toNat < 2 ^ 8 := Nat.xor_lt_two_pow (by omega) (by omega)
  refine ⟨⟨by omega, by omega⟩, ?_⟩
  intro e
  have e2 : a.toNat ^^^ b.toNat = a.toNat := by omega
  have e3 : b.toNat = 0 := by
    have := congrArg (fun n => a.toNat ^^^ n) e2
    simpa [← Nat.xor_assoc] using this
  omega
/-- One byte of a new slice is another one. -/
theorem new_set {w w' : World} {g c k : Nat} {l : List Int} (h : NewB w w' (.slice (some ⟨g, 0, none⟩) 512 c) l) (hl : l.length = 512) (hk : k < 512) (x : Int) :
    w'.cell? ⟨g, k, none⟩ = some (.int .u8 (l.getD k 0)) ∧ w'.frozen? ⟨g, k, none⟩ = false ∧ BAt (w'.setCell ⟨g, k, none⟩ (.int .u8 x)) (some ⟨g, 0, none⟩) (l.set k x) := by
  obtain ⟨g', c', he, hg, ho⟩ := h
  simp only [Value.slice.injEq, Option.some.injEq, Addr.mk.injEq, and_true] at he
  obtain ⟨rfl, _, rfl⟩ := he
  have hcell : ∀ j y, l[j]? = some y → w'.cell? ⟨g, j, none⟩ = some (.int .u8 y) := fun j y hy => by
    have := cells_of_owned ho j (.int .u8 y) (by rw [bc, List.getElem?_map, hy, Option.map_some])
    rw [Addr.add_mid, Nat.zero_add] at this
    exact this
  have hkl : k < l.length := by omega
  have h1 := hcell k l[k] (List.getElem?_eq_getElem hkl)
  have hblk : ∃ cur : Array Value, w'.heap[g]? = some (.cells cur 5 (0, 0)) := by
    rcases ho.2 with ⟨h', _⟩ | ⟨g', cap', cur, h', _, hh, _⟩
    · simp at h'
    · simp only [Value.slice.injEq, Option.some.injEq, Addr.mk.injEq, and_true, true_and] at h'
      obtain ⟨rfl, _⟩ := h'
      exact ⟨cur, hh⟩
  obtain ⟨cur, hh⟩ := hblk
  refine ⟨by rw [h1, List.getD_eq_getElem?_getD, List.getElem?_eq_getElem hkl]; rfl, by simp [World.frozen?, hh], ?_⟩
  intro j y hy
  refine ⟨_, rfl, ?_⟩
  rw [Addr.add_mid, Nat.zero_add]
  rw [List.getElem?_set] at hy
  by_cases e : k = j
  · subst e
    rw [if_pos rfl, if_pos hkl] at hy
    obtain rfl := Option.some.inj hy
    exact World.cell?_setCell_same _ _ _ h1
  · rw [if_neg e] at hy
    rw [World.cell?_setCell_other _ _ _ _ (fun e' => e (congrArg Addr.off e'))]
    exact hcell j y hy
end Go.Proofs.Ytjbkmgeomnmddaa
