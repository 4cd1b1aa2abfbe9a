/- What this text holds: the document's Internal and the program's say the same. Plain facts. -/
import Derived.Test.YtnjdgbbdjkhpoaaDoorR9
namespace Go.Proofs.YtnjdgbbdjkhpoaaDoor
open Go.RowKit
set_option linter.unusedVariables false

theorem numR_two (n : Int) (h0 : 0 ≤ n) (h1 : n < 100) : numR (two n) = n := by
  unfold numR
  rw [if_pos ⟨by simp [two, dg_dig], by simp [two], by simp [two]⟩]
  simp [two, val, valF, dg_val]
  omega
theorem numR_four (n : Int) (h0 : 0 ≤ n) (h1 : n < 10000) : numR (four n) = n := by
  unfold numR
  rw [if_pos ⟨by simp [four, two, dg_dig], by simp [four, two], by simp [four, two]⟩]
  simp [four, two, val, valF, dg_val]
  omega
theorem monthR_back (m : Int) (h0 : 1 ≤ m) (h1 : m ≤ 12) : monthR (monthN m) = m := by
  rcases month_cases h0 h1 with rfl | rfl | rfl | rfl | rfl | rfl | rfl | rfl | rfl | rfl | rfl | rfl <;> decide +kernel
theorem dayR_back (d : Int) (r : Bs) (h0 : 1 ≤ d) (h1 : d ≤ 31) : numR (dayR (dayN d ++ r)) = d := by
  by_cases h : d < 10
  · have e : dayR (dayN d ++ r) = two d := by
      unfold dayR dayN
      rw [if_pos h, two_small d (by omega) h]
      rfl
    rw [e, numR_two d (by omega) (by omega)]
  · have e : dayR (dayN d ++ r) = two d := by
      have hn : dg (d / 10) ≠ 32 := by
        intro e
        have := dg_val (d / 10)
        rw [e] at this
        simp at this
        omega
      unfold dayR dayN
      rw [if_neg h, if_neg]
      · rfl
      · intro e
        exact hn (Option.some.inj e)
    rw [e, numR_two d (by omega) (by omega)]
theorem zoneT_back (z : Int) (h0 : -1439 ≤ z) (h1 : z ≤ 1439) : zoneT (zoneN z) = some z := by
  unfold zoneN
  split
  · rename_i h
    rw [zone_at (s := 45 :: (two (-z / 60) ++ two (-z % 60))) (c := 45) (H := -z / 60) (M := -z % 60) rfl rfl (numR_two (-z / 60) (by omega) (by omega)) (numR_two (-z % 60) (by omega) (by omega))]
    rw [if_pos (by refine ⟨.inr rfl, ?_⟩; omega), if_pos rfl]
    congr 1
    omega
  · rename_i h
    rw [zone_at (s := 43 :: (two (z / 60) ++ two (z % 60))) (c := 43) (H := z / 60) (M := z % 60) rfl rfl (numR_two (z / 60) (by omega) (by omega)) (numR_two (z % 60) (by omega) (by omega))]
    rw [if_pos (by refine ⟨.inl rfl, ?_⟩; omega), if_neg (by decide)]
    congr 1
    omega
theorem dayN_len (d : Int) : (dayN d).length = 2 := by unfold dayN; split <;> rfl
theorem print_len26 (t : Dt) (ht : RightP t) (c : UInt8) : (printN t c).length = 26 := by
  obtain ⟨⟨h1, h2, h3, h4, h5, h6⟩, _⟩ := ht
  rw [print_shape]
  simp [dayN_len, month_len' t.mo h3 h4, zone_len', two_len, four_len]
theorem drop_len {α : Type} (a b : List α) (n : Nat) (h : a.length = n) : (a ++ b).drop n = b := by rw [← h, List.drop_left]
theorem take_len {α : Type} (a b : List α) (n : Nat) (h : a.length = n) : (a ++ b).take n = a := by rw [← h, List.take_left]
theorem dR_back (t : Dt) (ht : RightP t) : dR (printN t 45) = t := by
  have ht' := ht
  obtain ⟨⟨h1, h2, h3, h4, h5, h6⟩, k1, k2, k3, k4, k5, k6, k7, k8⟩ := ht
  have hl := long_pos t.y t.mo
  have hd := dayN_len t.d
  have hm := month_len' t.mo h3 h4
  have hz := zone_len' t.z
  obtain ⟨a, b, ed⟩ : ∃ a b, dayN t.d = [a, b] := by
    unfold dayN; split
    · exact ⟨_, _, rfl⟩
    · exact ⟨_, _, rfl⟩
  obtain ⟨m1, m2, m3, em⟩ : ∃ a b c, monthN t.mo = [a, b, c] := by
    match hq : monthN t.mo, hm with
    | [a, b, c], _ => exact ⟨a, b, c, rfl⟩
  have e1 : ((printN t 45).drop 7).take 4 = four t.y := by rw [print_shape, ed, em]; rfl
  have e2 : ((printN t 45).drop 3).take 3 = monthN t.mo := by rw [print_shape, ed, em]; rfl
  have e3 : numR (dayR (printN t 45)) = t.d := by rw [print_shape]; exact dayR_back _ _ h5 (by omega)
  have e4 : ((printN t 45).drop 12).take 2 = two t.h := by rw [print_shape, ed, em]; rfl
  have e5 : ((printN t 45).drop 15).take 2 = two t.mi := by rw [print_shape, ed, em]; rfl
  have e6 : ((printN t 45).drop 18).take 2 = two t.s := by rw [print_shape, ed, em]; rfl
  have e7 : ((printN t 45).drop 21).take 5 = zoneN t.z := by
    have : (printN t 45).drop 21 = zoneN t.z := by rw [print_shape, ed, em]; rfl
    rw [this, List.take_of_length_le (by omega)]
  unfold dR
  rw [e1, e2, e3, e4, e5, e6, e7, numR_four _ (by omega) (by omega), monthR_back _ h3 h4, numR_two _ k1 (by omega), numR_two _ k3 (by omega), numR_two _ k5 (by omega), zoneT_back _ k7 k8]
  rfl
theorem int_some {s : Bs} {t : Dt} (h : internalV s = some t) : RightP t ∧ s = printN t 45 := by
  unfold internalV at h
  rcases hr : readP internalP s with _ | r
  · rw [hr] at h; cases h
  · rw [hr] at h
    simp only at h
    split at h
    · rename_i hp
      cases h
      have hR : RightP t := by
        unfold readP at hr
        split at hr
        · split at hr
          · rename_i hh
            cases hr
            exact hh.2
          · cases hr
        · cases hr
      refine ⟨hR, ?_⟩
      rw [← hp, printV, if_pos hR]
    · cases h
theorem int_of (t : Dt) (ht : RightP t) : internalV (printN t 45) = some t := by
  have h1 : readP internalP (printN t 45) = some t := by
    unfold readP
    rw [internal_back t ht]
    simp [ht]
  have h2 : printV t = printN t 45 := by unfold printV; rw [if_pos ht]
  unfold internalV
  rw [h1]
  simp [h2]
theorem rint_eq (s : Bs) : rintV s = internalV s := by
  unfold rintV
  split
  · rename_i h
    have hR : RightP (dR s) := by
      rcases Classical.em (RightP (dR s)) with hr | hr
      · exact hr
      · have := h.2
        rw [printV, if_neg hr] at this
        rw [← this] at h
        simp at h
    have hs : s = printN (dR s) 45 := by
      have := h.2
      rw [printV, if_pos hR] at this
      exact this.symm
    have := int_of _ hR
    rw [← hs] at this
    exact this.symm
  · rename_i h
    rcases hi : internalV s with _ | t
    · rfl
    · obtain ⟨hR, hs⟩ := int_some hi
      exfalso
      apply h
      have h1 := print_len26 t hR 45
      have h2 := dR_back t hR
      rw [← hs] at h1 h2
      refine ⟨h1, ?_⟩
      rw [h2, printV, if_pos hR]
      exact hs.symm
end Go.Proofs.YtnjdgbbdjkhpoaaDoor
