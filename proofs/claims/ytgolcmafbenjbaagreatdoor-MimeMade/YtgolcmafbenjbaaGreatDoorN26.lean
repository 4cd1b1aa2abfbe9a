/- What this text holds: are two lists of Params the same: the document's call. -/
import Derived.Test.YtgolcmafbenjbaaGreatDoorN25
namespace Go.Proofs.YtgolcmafbenjbaaGreatDoor
open Go.RowKit
set_option linter.unusedVariables false
set_option linter.unusedSimpArgs false

set_option maxRecDepth 100000 in
set_option maxHeartbeats 4000000 in
theorem sameP_any {w : World} {va vb : Value} {l m : List (Bs × Bs)} (h : RL w va 2 (l.map pR)) (h' : RL w vb 2 (m.map pR)) (hl : l.length ≤ 1000000) (hm : m.length ≤ 1000000) :
    Calls Tryz.prog 11 #[va, vb] w fun e w' => e = .returned (.bool (decide (l = m))) ∧ Below w.heap.size w w' := by
  obtain ⟨hw, a, c, rfl, hc, hr⟩ := h
  obtain ⟨hw', a', c', rfl, hc', hr'⟩ := h'
  simp only [List.length_map] at *
  by_cases hlen : l.length = m.length
  · rcases hr with hr | ⟨g, o, rfl, hr, hg⟩
    · have e1 : l = [] := by simpa using hr
      have e2 : m = [] := List.eq_nil_of_length_eq_zero (by rw [← hlen, e1]; rfl)
      subst e1 e2
      go_enter Tryz.func11, Tryz.ntmps11
      go_wp2_with fail
      go_loopw [5] (fun i wr => i = .int .i64 0 ∧ wr = w) (fun _ _ => 0)
      case atStart => exact ⟨rfl, rfl⟩
      case round =>
        obtain ⟨rfl, rfl⟩ := hrel
        go_wp2_with fail
        go_ret
        exact ⟨rfl, Below.refl _ _⟩
    · rcases hr' with hr' | ⟨g', o', rfl, hr', hg'⟩
      · have e1 : m = [] := by simpa using hr'
        have e2 : l = [] := List.eq_nil_of_length_eq_zero (by rw [hlen, e1]; rfl)
        subst e1 e2
        go_enter Tryz.func11, Tryz.ntmps11
        go_wp2_with fail
        go_loopw [5] (fun i wr => i = .int .i64 0 ∧ wr = w) (fun _ _ => 0)
        case atStart => exact ⟨rfl, rfl⟩
        case round =>
          obtain ⟨rfl, rfl⟩ := hrel
          go_wp2_with fail
          go_ret
          exact ⟨rfl, Below.refl _ _⟩
      · have HR := hid hr
        have HR' := hid hr'
        have HL := hid hlen
        rw [← hlen]
        clear hr hr' hlen
        go_enter Tryz.func11, Tryz.ntmps11
        go_wp2_with fail
        go_loopw [5] (fun i wr => ∃ k : Nat, k ≤ l.length ∧ i = .int .i64 k ∧ l.take k = m.take k ∧ Below w.heap.size w wr) (fun i _ => l.length - (intOf i).toNat)
        case atStart => exact ⟨0, by omega, rfl, by simp, Below.refl _ _⟩
        case round =>
          obtain ⟨k, hk, rfl, ht, hb⟩ := hrel
          have HT := hid ht
          have HB := hid hb
          clear ht hb
          by_cases hlt : k < l.length
          · have hlt' : (k : Int) < l.length := by omega
            have hlm : k < m.length := by rw [← HL.out]; exact hlt
            have hx0 : wr.cell? ⟨g, o + k * 2, none⟩ = some (.string (str l[k].1)) := (HR.out.later HB.out).rec k (pR l[k]) (by rw [List.getElem?_map, List.getElem?_eq_getElem hlt]; rfl) 0 _ rfl
            have hx1 : wr.cell? ⟨g, o + k * 2 + 1, none⟩ = some (.string (str l[k].2)) := (HR.out.later HB.out).rec k (pR l[k]) (by rw [List.getElem?_map, List.getElem?_eq_getElem hlt]; rfl) 1 _ rfl
            have hy0 : wr.cell? ⟨g', o' + k * 2, none⟩ = some (.string (str m[k].1)) := (HR'.out.later HB.out).rec k (pR m[k]) (by rw [List.getElem?_map, List.getElem?_eq_getElem hlm]; rfl) 0 _ rfl
            have hy1 : wr.cell? ⟨g', o' + k * 2 + 1, none⟩ = some (.string (str m[k].2)) := (HR'.out.later HB.out).rec k (pR m[k]) (by rw [List.getElem?_map, List.getElem?_eq_getElem hlm]; rfl) 1 _ rfl
            have HS : Hid (l[k] = m[k] → l.take (k + 1) = m.take (k + 1)) := fun h => by rw [List.take_succ_eq_append_getElem hlt, List.take_succ_eq_append_getElem hlm, HT.out, h]
            have HN : Hid (l[k] ≠ m[k] → decide (l = m) = false) := fun h => by simp; intro e; subst e; exact h rfl
            generalize l[k] = x at *
            generalize m[k] = y at *
            by_cases hxy : x = y
            · have HF := hid (HS.out hxy)
              have q0 : (str x.1).toList = (str y.1).toList := by rw [hxy]
              have q1 : (str x.2).toList = (str y.2).toList := by rw [hxy]
              clear hxy
              go_wp2_with fail
              go_quiet (fail)
              go_wp2_with fail
              go_roundw
              case rel => exact ⟨k + 1, by omega, by go_num, HF.out, HB.out.trans (drewN_below _ _ _)⟩
              case measure => simp [intOf]; omega
            · have HF := hid (HN.out hxy)
              by_cases b0 : x.1 = y.1
              · skip
                by_cases b1 : x.2 = y.2
                · skip
                  exact absurd (Prod.ext b0 b1) hxy
                · skip
                  have q0 : (str x.1).toList = (str y.1).toList := by rw [toL, toL]; exact b0
                  have q1 : ¬ (str x.2).toList = (str y.2).toList := by rw [toL, toL]; exact b1
                  clear b0 b1
                  go_wp2_with fail
                  go_quiet (fail)
                  go_wp2_with fail
                  go_ret
                  exact ⟨by rw [HF.out]; rfl, HB.out.trans (drewN_below _ _ _)⟩
              · skip
                have q0 : ¬ (str x.1).toList = (str y.1).toList := by rw [toL, toL]; exact b0
                clear b0
                go_wp2_with fail
                go_quiet (fail)
                go_wp2_with fail
                go_ret
                exact ⟨by rw [HF.out]; rfl, HB.out.trans (drewN_below _ _ _)⟩
          · have hlt' : ¬ (k : Int) < l.length := by omega
            have HF : Hid (decide (l = m) = true) := by
              have := HT.out
              rw [List.take_of_length_le (by omega), List.take_of_length_le (by have := HL.out; omega)] at this
              simp [Hid, this]
            go_wp2_with fail
            go_ret
            exact ⟨by rw [HF.out]; rfl, HB.out⟩
  · have HF : Hid (decide (l = m) = false) := by simp [Hid]; intro e; subst e; exact hlen rfl
    have hlen' : ¬ (l.length : Int) = m.length := by omega
    clear hr hr' hlen
    rw [HF.out]
    go_enter Tryz.func11, Tryz.ntmps11
    go_wp2_with fail
    go_ret
    exact ⟨rfl, Below.refl _ _⟩

def sKind : Bs := [84, 101, 120, 116, 47, 72, 84, 77, 76, 59, 32, 67, 104, 97, 114, 115, 101, 116, 61, 34, 97, 32, 98, 34]
def sMsg : Bs := [65, 58, 32, 98, 13, 10, 13, 10, 99]
def sMul : Bs := [67, 111, 110, 116, 101, 110, 116, 45, 84, 121, 112, 101, 58, 32, 109, 117, 108, 116, 105, 112, 97, 114, 116, 47, 120, 59, 32, 98, 111, 117, 110, 100, 97, 114, 121, 61, 113, 13, 10, 13, 10, 45, 45, 113, 13, 10, 13, 10, 111, 110, 101, 13, 10, 45, 45, 113, 45, 45, 13, 10]
theorem kind_lit : kindM sKind = ([116, 101, 120, 116], [104, 116, 109, 108], [([99, 104, 97, 114, 115, 101, 116], [97, 32, 98])]) := by decide +kernel
theorem at_one : ((atM (strucM sMsg) [1]).map fun p => bodyM sMsg p [1]) = some [99] := by decide +kernel
theorem at_two : ((atM (strucM sMsg) [2]).map fun p => bodyM sMsg p [2]) = none := by decide +kernel
theorem mul_cnt : cntD 7 (strucM sMul) = 2 := by decide +kernel
theorem mul_kid : (strucM sMul).kids.length = 1 ∧ ∀ k ∈ (strucM sMul).kids[0]?, k.d.to = k.d.fr + 3 ∧ k.d.fr ≤ 1000 := by decide +kernel
end Go.Proofs.YtgolcmafbenjbaaGreatDoor
