/- What this text holds: whether two lists of texts are the same. -/
import Derived.Test.YtikcbgoocljgnaaDoorM16
namespace Go.Proofs.YtikcbgoocljgnaaDoor
open Go.RowKit
set_option linter.unusedVariables false
set_option linter.unusedSimpArgs false

set_option maxRecDepth 100000 in
set_option maxHeartbeats 1000000 in
theorem texts_any {w : World} {va vb : Value} {l m : List Bs} (h : GL eS w va l) (h' : GL eS w vb m) (hl : l.length ≤ 1000000) (hm : m.length ≤ 1000000) :
    Calls Tryd.prog 19 #[va, vb] w fun e w' => e = .returned (.bool (decide (l = m))) ∧ ∃ n, w' = w.drewN n := by
  obtain ⟨a, c, rfl, hc, hr⟩ := h
  obtain ⟨a', c', rfl, hc', hr'⟩ := h'
  by_cases hlen : l.length = m.length
  · by_cases h0 : l = []
    · have e2 : m = [] := List.eq_nil_of_length_eq_zero (by rw [← hlen, h0]; rfl)
      subst h0 e2
      clear hr hr'
      go_enter Tryd.func19, Tryd.ntmps19
      go_wp2_with fail
      go_loopw [5] (fun i wr => i = .int .i64 0 ∧ wr = w) (fun _ _ => 0)
      case atStart => exact ⟨rfl, rfl⟩
      case round =>
        obtain ⟨rfl, rfl⟩ := hrel
        go_wp2_with fail
        go_ret
        exact ⟨rfl, 0, rfl⟩
    · obtain ⟨g, o, rfl, hga, hg⟩ := hr.resolve_left h0
      have h0' : m ≠ [] := fun e => h0 (List.eq_nil_of_length_eq_zero (by rw [hlen, e]; rfl))
      obtain ⟨g', o', rfl, hga', hg'⟩ := hr'.resolve_left h0'
      have HR := hid hga
      have HR' := hid hga'
      have HL := hid hlen
      rw [← hlen]
      clear hr hr' hlen hga hga' h0 h0'
      go_enter Tryd.func19, Tryd.ntmps19
      go_wp2_with fail
      go_loopw [5] (fun i wr => ∃ (k n : Nat), k ≤ l.length ∧ i = .int .i64 k ∧ l.take k = m.take k ∧ wr = w.drewN n) (fun i _ => l.length - (intOf i).toNat)
      case atStart => exact ⟨0, 0, by omega, rfl, by simp, rfl⟩
      case round =>
        obtain ⟨k, n, hk, rfl, ht, hwr⟩ := hrel
        have HT := hid ht
        clear ht
        by_cases hlt : k < l.length
        · have hlt' : (k : Int) < l.length := by omega
          have hlm : k < m.length := by rw [← HL.out]; exact hlt
          have hx0 : wr.cell? ⟨g, o + k, none⟩ = some (.string (str l[k])) := by rw [hwr]; exact HR.out.s k l[k] (List.getElem?_eq_getElem hlt)
          have hy0 : wr.cell? ⟨g', o' + k, none⟩ = some (.string (str m[k])) := by rw [hwr]; exact HR'.out.s k m[k] (List.getElem?_eq_getElem hlm)
          have HS : Hid (l[k] = m[k] → l.take (k + 1) = m.take (k + 1)) := fun h => by rw [List.take_succ_eq_append_getElem hlt, List.take_succ_eq_append_getElem hlm, HT.out, h]
          have HN : Hid (l[k] ≠ m[k] → decide (l = m) = false) := fun h => by simp; intro e; subst e; exact h rfl
          generalize l[k] = x at *
          generalize m[k] = y at *
          have HW := hid hwr
          clear hwr
          by_cases hxy : x = y
          · have HF := hid (HS.out hxy)
            have q0 : (str x).toList = (str y).toList := by rw [hxy]
            clear hxy
            go_wp2_with fail
            go_quiet (fail)
            go_wp2_with fail
            go_roundw
            case rel => exact ⟨k + 1, n + nq, by omega, by go_num, HF.out, by rw [HW.out]; simp [World.drewN, Nat.add_assoc]⟩
            case measure => simp [intOf]; omega
          · have HF := hid (HN.out hxy)
            have q0 : ((str x).toList == (str y).toList) = false := by rw [toL, toL]; simp [hxy]
            clear hxy
            go_wp2_with fail
            go_quiet (fail)
            go_wp2_with fail
            go_ret
            exact ⟨by rw [HF.out]; rfl, n + nq, by rw [HW.out]; simp [World.drewN, Nat.add_assoc]⟩
        · have hlt' : ¬ (k : Int) < l.length := by omega
          have HF : Hid (decide (l = m) = true) := by
            have := HT.out
            rw [List.take_of_length_le (by omega), List.take_of_length_le (by have := HL.out; omega)] at this
            simp [Hid, this]
          have HW := hid hwr
          clear hwr
          go_wp2_with fail
          go_ret
          exact ⟨by rw [HF.out]; rfl, n, HW.out⟩
  · have HF : Hid (decide (l = m) = false) := by simp [Hid]; intro e; subst e; exact hlen rfl
    have hlen' : ¬ (l.length : Int) = m.length := by omega
    clear hr hr' hlen
    rw [HF.out]
    go_enter Tryd.func19, Tryd.ntmps19
    go_wp2_with fail
    go_ret
    exact ⟨rfl, 0, rfl⟩
end Go.Proofs.YtikcbgoocljgnaaDoor
