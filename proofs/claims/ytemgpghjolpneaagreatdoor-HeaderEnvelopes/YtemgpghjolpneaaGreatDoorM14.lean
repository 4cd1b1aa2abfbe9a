/- What this text holds: are two lists the same? -/
import Derived.Test.YtemgpghjolpneaaGreatDoorM13
namespace Go.Proofs.YtemgpghjolpneaaGreatDoor
open Go.RowKit
set_option linter.unusedVariables false
set_option linter.unusedSimpArgs false

set_option maxRecDepth 100000 in
set_option maxHeartbeats 4000000 in
theorem sameF_any {w : World} {va vb : Value} {l m : List (Bs × Bs)} (h : RL w va 2 (l.map fR)) (h' : RL w vb 2 (m.map fR)) (hl : l.length ≤ 1000000) (hm : m.length ≤ 1000000) :
    Calls Tryz.prog 11 #[va, vb] w fun e w' => e = .returned (.bool (decide (l = m))) ∧ Below w.heap.size w w' := by
  obtain ⟨hw, a, c, rfl, hc, hr⟩ := h
  obtain ⟨hw', a', c', rfl, hc', hr'⟩ := h'
  simp only [List.length_map] at *
  by_cases hlen : l.length = m.length
  · rcases hr with hr | ⟨g, o, rfl, hr, hg⟩
    · have e1 : l = [] := by simpa using hr
      have e2 : m = [] := List.eq_nil_of_length_eq_zero (by rw [← hlen, e1]; rfl)
      subst e1 e2
      go_enter Tryz.func11, Tryz.ntmps11
      go_wp2_with fail
      go_loopw [5] (fun i wr => i = .int .i64 0 ∧ wr = w) (fun _ _ => 0)
      case atStart => exact ⟨rfl, rfl⟩
      case round =>
        obtain ⟨rfl, rfl⟩ := hrel
        go_wp2_with fail
        go_ret
        exact ⟨rfl, Below.refl _ _⟩
    · rcases hr' with hr' | ⟨g', o', rfl, hr', hg'⟩
      · have e1 : m = [] := by simpa using hr'
        have e2 : l = [] := List.eq_nil_of_length_eq_zero (by rw [hlen, e1]; rfl)
        subst e1 e2
        go_enter Tryz.func11, Tryz.ntmps11
        go_wp2_with fail
        go_loopw [5] (fun i wr => i = .int .i64 0 ∧ wr = w) (fun _ _ => 0)
        case atStart => exact ⟨rfl, rfl⟩
        case round =>
          obtain ⟨rfl, rfl⟩ := hrel
          go_wp2_with fail
          go_ret
          exact ⟨rfl, Below.refl _ _⟩
      · have HR := hid hr
        have HR' := hid hr'
        have HL := hid hlen
        rw [← hlen]
        clear hr hr' hlen
        go_enter Tryz.func11, Tryz.ntmps11
        go_wp2_with fail
        go_loopw [5] (fun i wr => ∃ k : Nat, k ≤ l.length ∧ i = .int .i64 k ∧ l.take k = m.take k ∧ Below w.heap.size w wr) (fun i _ => l.length - (intOf i).toNat)
        case atStart => exact ⟨0, by omega, rfl, by simp, Below.refl _ _⟩
        case round =>
          obtain ⟨k, hk, rfl, ht, hb⟩ := hrel
          have HT := hid ht
          have HB := hid hb
          clear ht hb
          by_cases hlt : k < l.length
          · have hlt' : (k : Int) < l.length := by omega
            have hlm : k < m.length := by rw [← HL.out]; exact hlt
            have hx0 : wr.cell? ⟨g, o + k * 2, none⟩ = some (.string (str l[k].1)) := (HR.out.later HB.out).rec k (fR l[k]) (by rw [List.getElem?_map, List.getElem?_eq_getElem hlt]; rfl) 0 _ rfl
            have hx1 : wr.cell? ⟨g, o + k * 2 + 1, none⟩ = some (.string (str l[k].2)) := (HR.out.later HB.out).rec k (fR l[k]) (by rw [List.getElem?_map, List.getElem?_eq_getElem hlt]; rfl) 1 _ rfl
            have hy0 : wr.cell? ⟨g', o' + k * 2, none⟩ = some (.string (str m[k].1)) := (HR'.out.later HB.out).rec k (fR m[k]) (by rw [List.getElem?_map, List.getElem?_eq_getElem hlm]; rfl) 0 _ rfl
            have hy1 : wr.cell? ⟨g', o' + k * 2 + 1, none⟩ = some (.string (str m[k].2)) := (HR'.out.later HB.out).rec k (fR m[k]) (by rw [List.getElem?_map, List.getElem?_eq_getElem hlm]; rfl) 1 _ rfl
            have HS : Hid (l[k] = m[k] → l.take (k + 1) = m.take (k + 1)) := fun h => by rw [List.take_succ_eq_append_getElem hlt, List.take_succ_eq_append_getElem hlm, HT.out, h]
            have HN : Hid (l[k] ≠ m[k] → decide (l = m) = false) := fun h => by simp; intro e; subst e; exact h rfl
            generalize l[k] = x at *
            generalize m[k] = y at *
            by_cases hxy : x = y
            · have HF := hid (HS.out hxy)
              have q0 : (str x.1).toList = (str y.1).toList := by rw [hxy]
              have q1 : (str x.2).toList = (str y.2).toList := by rw [hxy]
              clear hxy
              go_wp2_with fail
              go_quiet (fail)
              go_wp2_with fail
              go_roundw
              case rel => exact ⟨k + 1, by omega, by go_num, HF.out, HB.out.trans (drewN_below _ _ _)⟩
              case measure => simp [intOf]; omega
            · have HF := hid (HN.out hxy)
              by_cases b0 : x.1 = y.1
              · skip
                by_cases b1 : x.2 = y.2
                · skip
                  exact absurd (Prod.ext b0 b1) hxy
                · skip
                  have q0 : (str x.1).toList = (str y.1).toList := by rw [toL, toL]; exact b0
                  have q1 : ¬ (str x.2).toList = (str y.2).toList := by rw [toL, toL]; exact b1
                  clear b0 b1
                  go_wp2_with fail
                  go_quiet (fail)
                  go_wp2_with fail
                  go_ret
                  exact ⟨by rw [HF.out]; rfl, HB.out.trans (drewN_below _ _ _)⟩
              · skip
                have q0 : ¬ (str x.1).toList = (str y.1).toList := by rw [toL, toL]; exact b0
                clear b0
                go_wp2_with fail
                go_quiet (fail)
                go_wp2_with fail
                go_ret
                exact ⟨by rw [HF.out]; rfl, HB.out.trans (drewN_below _ _ _)⟩
          · have hlt' : ¬ (k : Int) < l.length := by omega
            have HF : Hid (decide (l = m) = true) := by
              have := HT.out
              rw [List.take_of_length_le (by omega), List.take_of_length_le (by have := HL.out; omega)] at this
              simp [Hid, this]
            go_wp2_with fail
            go_ret
            exact ⟨by rw [HF.out]; rfl, HB.out⟩
  · have HF : Hid (decide (l = m) = false) := by simp [Hid]; intro e; subst e; exact hlen rfl
    have hlen' : ¬ (l.length : Int) = m.length := by omega
    clear hr hr' hlen
    rw [HF.out]
    go_enter Tryz.func11, Tryz.ntmps11
    go_wp2_with fail
    go_ret
    exact ⟨rfl, Below.refl _ _⟩

set_option maxRecDepth 100000 in
set_option maxHeartbeats 4000000 in
theorem texts_any {w : World} {va vb : Value} {l m : List Bs} (h : RL w va 1 (l.map sR)) (h' : RL w vb 1 (m.map sR)) (hl : l.length ≤ 1000000) (hm : m.length ≤ 1000000) :
    Calls Tryz.prog 12 #[va, vb] w fun e w' => e = .returned (.bool (decide (l = m))) ∧ Below w.heap.size w w' := by
  obtain ⟨hw, a, c, rfl, hc, hr⟩ := h
  obtain ⟨hw', a', c', rfl, hc', hr'⟩ := h'
  simp only [List.length_map] at *
  by_cases hlen : l.length = m.length
  · rcases hr with hr | ⟨g, o, rfl, hr, hg⟩
    · have e1 : l = [] := by simpa using hr
      have e2 : m = [] := List.eq_nil_of_length_eq_zero (by rw [← hlen, e1]; rfl)
      subst e1 e2
      go_enter Tryz.func12, Tryz.ntmps12
      go_wp2_with fail
      go_loopw [5] (fun i wr => i = .int .i64 0 ∧ wr = w) (fun _ _ => 0)
      case atStart => exact ⟨rfl, rfl⟩
      case round =>
        obtain ⟨rfl, rfl⟩ := hrel
        go_wp2_with fail
        go_ret
        exact ⟨rfl, Below.refl _ _⟩
    · rcases hr' with hr' | ⟨g', o', rfl, hr', hg'⟩
      · have e1 : m = [] := by simpa using hr'
        have e2 : l = [] := List.eq_nil_of_length_eq_zero (by rw [hlen, e1]; rfl)
        subst e1 e2
        go_enter Tryz.func12, Tryz.ntmps12
        go_wp2_with fail
        go_loopw [5] (fun i wr => i = .int .i64 0 ∧ wr = w) (fun _ _ => 0)
        case atStart => exact ⟨rfl, rfl⟩
        case round =>
          obtain ⟨rfl, rfl⟩ := hrel
          go_wp2_with fail
          go_ret
          exact ⟨rfl, Below.refl _ _⟩
      · have HR := hid hr
        have HR' := hid hr'
        have HL := hid hlen
        rw [← hlen]
        clear hr hr' hlen
        go_enter Tryz.func12, Tryz.ntmps12
        go_wp2_with fail
        go_loopw [5] (fun i wr => ∃ k : Nat, k ≤ l.length ∧ i = .int .i64 k ∧ l.take k = m.take k ∧ Below w.heap.size w wr) (fun i _ => l.length - (intOf i).toNat)
        case atStart => exact ⟨0, by omega, rfl, by simp, Below.refl _ _⟩
        case round =>
          obtain ⟨k, hk, rfl, ht, hb⟩ := hrel
          have HT := hid ht
          have HB := hid hb
          clear ht hb
          by_cases hlt : k < l.length
          · have hlt' : (k : Int) < l.length := by omega
            have hlm : k < m.length := by rw [← HL.out]; exact hlt
            have hx0 : wr.cell? ⟨g, o + k, none⟩ = some (.string (str l[k])) := by
              have := (HR.out.later HB.out).rec k (sR l[k]) (by rw [List.getElem?_map, List.getElem?_eq_getElem hlt]; rfl) 0 _ rfl
              rw [Nat.mul_one] at this
              exact this
            have hy0 : wr.cell? ⟨g', o' + k, none⟩ = some (.string (str m[k])) := by
              have := (HR'.out.later HB.out).rec k (sR m[k]) (by rw [List.getElem?_map, List.getElem?_eq_getElem hlm]; rfl) 0 _ rfl
              rw [Nat.mul_one] at this
              exact this
            have HS : Hid (l[k] = m[k] → l.take (k + 1) = m.take (k + 1)) := fun h => by rw [List.take_succ_eq_append_getElem hlt, List.take_succ_eq_append_getElem hlm, HT.out, h]
            have HN : Hid (l[k] ≠ m[k] → decide (l = m) = false) := fun h => by simp; intro e; subst e; exact h rfl
            generalize l[k] = x at *
            generalize m[k] = y at *
            by_cases hxy : x = y
            · have HF := hid (HS.out hxy)
              have q0 : (str x).toList = (str y).toList := by rw [hxy]
              clear hxy
              go_wp2_with fail
              go_quiet (fail)
              go_wp2_with fail
              go_roundw
              case rel => exact ⟨k + 1, by omega, by go_num, HF.out, HB.out.trans (drewN_below _ _ _)⟩
              case measure => simp [intOf]; omega
            · have HF := hid (HN.out hxy)
              by_cases b0 : x = y
              · skip
                exact absurd (b0) hxy
              · skip
                have q0 : ((str x).toList == (str y).toList) = false := by rw [toL, toL]; simp [b0]
                clear b0
                go_wp2_with fail
                go_quiet (fail)
                go_wp2_with fail
                go_ret
                exact ⟨by rw [HF.out]; rfl, HB.out.trans (drewN_below _ _ _)⟩
          · have hlt' : ¬ (k : Int) < l.length := by omega
            have HF : Hid (decide (l = m) = true) := by
              have := HT.out
              rw [List.take_of_length_le (by omega), List.take_of_length_le (by have := HL.out; omega)] at this
              simp [Hid, this]
            go_wp2_with fail
            go_ret
            exact ⟨by rw [HF.out]; rfl, HB.out⟩
  · have HF : Hid (decide (l = m) = false) := by simp [Hid]; intro e; subst e; exact hlen rfl
    have hlen' : ¬ (l.length : Int) = m.length := by omega
    clear hr hr' hlen
    rw [HF.out]
    go_enter Tryz.func12, Tryz.ntmps12
    go_wp2_with fail
    go_ret
    exact ⟨rfl, Below.refl _ _⟩

set_option maxRecDepth 100000 in
set_option maxHeartbeats 4000000 in
theorem people_any {w : World} {va vb : Value} {l m : List Ad} (h : RL w va 3 (l.map adR)) (h' : RL w vb 3 (m.map adR)) (hl : l.length ≤ 1000000) (hm : m.length ≤ 1000000) :
    Calls Tryz.prog 14 #[va, vb] w fun e w' => e = .returned (.bool (decide (l = m))) ∧ Below w.heap.size w w' := by
  obtain ⟨hw, a, c, rfl, hc, hr⟩ := h
  obtain ⟨hw', a', c', rfl, hc', hr'⟩ := h'
  simp only [List.length_map] at *
  by_cases hlen : l.length = m.length
  · rcases hr with hr | ⟨g, o, rfl, hr, hg⟩
    · have e1 : l = [] := by simpa using hr
      have e2 : m = [] := List.eq_nil_of_length_eq_zero (by rw [← hlen, e1]; rfl)
      subst e1 e2
      go_enter Tryz.func14, Tryz.ntmps14
      go_wp2_with fail
      go_loopw [5] (fun i wr => i = .int .i64 0 ∧ wr = w) (fun _ _ => 0)
      case atStart => exact ⟨rfl, rfl⟩
      case round =>
        obtain ⟨rfl, rfl⟩ := hrel
        go_wp2_with fail
        go_ret
        exact ⟨rfl, Below.refl _ _⟩
    · rcases hr' with hr' | ⟨g', o', rfl, hr', hg'⟩
      · have e1 : m = [] := by simpa using hr'
        have e2 : l = [] := List.eq_nil_of_length_eq_zero (by rw [hlen, e1]; rfl)
        subst e1 e2
        go_enter Tryz.func14, Tryz.ntmps14
        go_wp2_with fail
        go_loopw [5] (fun i wr => i = .int .i64 0 ∧ wr = w) (fun _ _ => 0)
        case atStart => exact ⟨rfl, rfl⟩
        case round =>
          obtain ⟨rfl, rfl⟩ := hrel
          go_wp2_with fail
          go_ret
          exact ⟨rfl, Below.refl _ _⟩
      · have HR := hid hr
        have HR' := hid hr'
        have HL := hid hlen
        rw [← hlen]
        clear hr hr' hlen
        go_enter Tryz.func14, Tryz.ntmps14
        go_wp2_with fail
        go_loopw [5] (fun i wr => ∃ k : Nat, k ≤ l.length ∧ i = .int .i64 k ∧ l.take k = m.take k ∧ Below w.heap.size w wr) (fun i _ => l.length - (intOf i).toNat)
        case atStart => exact ⟨0, by omega, rfl, by simp, Below.refl _ _⟩
        case round =>
          obtain ⟨k, hk, rfl, ht, hb⟩ := hrel
          have HT := hid ht
          have HB := hid hb
          clear ht hb
          by_cases hlt : k < l.length
          · have hlt' : (k : Int) < l.length := by omega
            have hlm : k < m.length := by rw [← HL.out]; exact hlt
            have hx0 : wr.cell? ⟨g, o + k * 3, none⟩ = some (.string (str l[k].1)) := (HR.out.later HB.out).rec k (adR l[k]) (by rw [List.getElem?_map, List.getElem?_eq_getElem hlt]; rfl) 0 _ rfl
            have hx1 : wr.cell? ⟨g, o + k * 3 + 1, none⟩ = some (.string (str l[k].2.1)) := (HR.out.later HB.out).rec k (adR l[k]) (by rw [List.getElem?_map, List.getElem?_eq_getElem hlt]; rfl) 1 _ rfl
            have hx2 : wr.cell? ⟨g, o + k * 3 + 2, none⟩ = some (.string (str l[k].2.2)) := (HR.out.later HB.out).rec k (adR l[k]) (by rw [List.getElem?_map, List.getElem?_eq_getElem hlt]; rfl) 2 _ rfl
            have hy0 : wr.cell? ⟨g', o' + k * 3, none⟩ = some (.string (str m[k].1)) := (HR'.out.later HB.out).rec k (adR m[k]) (by rw [List.getElem?_map, List.getElem?_eq_getElem hlm]; rfl) 0 _ rfl
            have hy1 : wr.cell? ⟨g', o' + k * 3 + 1, none⟩ = some (.string (str m[k].2.1)) := (HR'.out.later HB.out).rec k (adR m[k]) (by rw [List.getElem?_map, List.getElem?_eq_getElem hlm]; rfl) 1 _ rfl
            have hy2 : wr.cell? ⟨g', o' + k * 3 + 2, none⟩ = some (.string (str m[k].2.2)) := (HR'.out.later HB.out).rec k (adR m[k]) (by rw [List.getElem?_map, List.getElem?_eq_getElem hlm]; rfl) 2 _ rfl
            have HS : Hid (l[k] = m[k] → l.take (k + 1) = m.take (k + 1)) := fun h => by rw [List.take_succ_eq_append_getElem hlt, List.take_succ_eq_append_getElem hlm, HT.out, h]
            have HN : Hid (l[k] ≠ m[k] → decide (l = m) = false) := fun h => by simp; intro e; subst e; exact h rfl
            generalize l[k] = x at *
            generalize m[k] = y at *
            by_cases hxy : x = y
            · have HF := hid (HS.out hxy)
              have q0 : (str x.1).toList = (str y.1).toList := by rw [hxy]
              have q1 : (str x.2.1).toList = (str y.2.1).toList := by rw [hxy]
              have q2 : (str x.2.2).toList = (str y.2.2).toList := by rw [hxy]
              clear hxy
              go_wp2_with fail
              go_quiet (fail)
              go_wp2_with fail
              go_roundw
              case rel => exact ⟨k + 1, by omega, by go_num, HF.out, HB.out.trans (drewN_below _ _ _)⟩
              case measure => simp [intOf]; omega
            · have HF := hid (HN.out hxy)
              by_cases b0 : x.1 = y.1
              · skip
                by_cases b1 : x.2.1 = y.2.1
                · skip
                  by_cases b2 : x.2.2 = y.2.2
                  · skip
                    exact absurd (Prod.ext b0 (Prod.ext b1 b2)) hxy
                  · skip
                    have q0 : (str x.1).toList = (str y.1).toList := by rw [toL, toL]; exact b0
                    have q1 : (str x.2.1).toList = (str y.2.1).toList := by rw [toL, toL]; exact b1
                    have q2 : ¬ (str x.2.2).toList = (str y.2.2).toList := by rw [toL, toL]; exact b2
                    clear b0 b1 b2
                    go_wp2_with fail
                    go_quiet (fail)
                    go_wp2_with fail
                    go_ret
                    exact ⟨by rw [HF.out]; rfl, HB.out.trans (drewN_below _ _ _)⟩
                · skip
                  have q0 : (str x.1).toList = (str y.1).toList := by rw [toL, toL]; exact b0
                  have q1 : ¬ (str x.2.1).toList = (str y.2.1).toList := by rw [toL, toL]; exact b1
                  clear b0 b1
                  go_wp2_with fail
                  go_quiet (fail)
                  go_wp2_with fail
                  go_ret
                  exact ⟨by rw [HF.out]; rfl, HB.out.trans (drewN_below _ _ _)⟩
              · skip
                have q0 : ¬ (str x.1).toList = (str y.1).toList := by rw [toL, toL]; exact b0
                clear b0
                go_wp2_with fail
                go_quiet (fail)
                go_wp2_with fail
                go_ret
                exact ⟨by rw [HF.out]; rfl, HB.out.trans (drewN_below _ _ _)⟩
          · have hlt' : ¬ (k : Int) < l.length := by omega
            have HF : Hid (decide (l = m) = true) := by
              have := HT.out
              rw [List.take_of_length_le (by omega), List.take_of_length_le (by have := HL.out; omega)] at this
              simp [Hid, this]
            go_wp2_with fail
            go_ret
            exact ⟨by rw [HF.out]; rfl, HB.out⟩
  · have HF : Hid (decide (l = m) = false) := by simp [Hid]; intro e; subst e; exact hlen rfl
    have hlen' : ¬ (l.length : Int) = m.length := by omega
    clear hr hr' hlen
    rw [HF.out]
    go_enter Tryz.func14, Tryz.ntmps14
    go_wp2_with fail
    go_ret
    exact ⟨rfl, Below.refl _ _⟩
end Go.Proofs.YtemgpghjolpneaaGreatDoor
