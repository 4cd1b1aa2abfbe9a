/- What this text holds: whether spans rise. -/
import Derived.Test.YtiiegjdclpkeeaaDoorM6
import Derived.Test.YtiiegjdclpkeeaaDoorP5
namespace Go.Proofs.YtiiegjdclpkeeaaDoor
open Go.RowKit
set_option linter.unusedVariables false
set_option linter.unusedSimpArgs false

set_option maxRecDepth 100000 in
set_option maxHeartbeats 8000000 in
theorem rising_any {w : World} {v : Value} {l : List Sp} (h : GL eSp w v l) (hl : l.length ≤ 1000000) (hr : Rise l) (hx : ∀ s ∈ l, s.2 ≤ mx) : Calls Tryd.prog 7 #[v] w (SameIs true w) := by
  obtain ⟨a, c, rfl, hg, hc⟩ := gl_slice h
  have HG := hid hg
  have HR := hid hr
  have HX := hid hx
  clear hg h hr hx
  go_enter Tryd.func7, Tryd.ntmps7
  go_wp2_with fail
  go_loopw [6] (fun i wr => ∃ k : Nat, k ≤ l.length ∧ i = .int .i64 k ∧ Below w.heap.size w wr) (fun i _ => l.length - (intOf i).toNat)
  case atStart => exact ⟨0, by omega, rfl, Below.refl _ _⟩
  case round =>
    obtain ⟨k, hk, rfl, hb1⟩ := hrel
    have HB := hid hb1
    clear hb1
    by_cases hlt : k < l.length
    · have hne : l ≠ [] := by rintro rfl; simp at hlt
      obtain ⟨g, o, rfl, hga, _⟩ := HG.out hne
      have HGk := hid (hga.later HB.out)
      clear hga hne HG
      cases k with
      | zero =>
        have hlt' : (0 : Int) < l.length := by omega
        obtain ⟨hc0, hc1⟩ := HGk.out.sp 0 l[0] (List.getElem?_eq_getElem hlt)
        have HS := hid (HR.out.ok l[0] (List.getElem_mem hlt))
        have HS2 := hid (HX.out l[0] (List.getElem_mem hlt))
        clear HGk
        generalize l[0] = s at *
        obtain ⟨x, y⟩ := s
        simp only [Nat.zero_mul, Nat.add_zero] at hc0 hc1 HS HS2
        obtain ⟨p1, p2⟩ := HS.out
        have p3 := HS2.out
        unfold mx at p3
        have d1 : decide (x < 1) = false := by simpa using p1
        have d2 : decide (y < x) = false := by simpa using p2
        have d3 : decide (4294967295 < y) = false := by simpa using p3
        go_wp2_with fail
        go_quiet (fail)
        go_wp2_with fail
        go_roundw
        case rel => exact ⟨1, by omega, by go_num, HB.out.trans (drewN_below _ _ _)⟩
        case measure => simp [intOf]; omega
      | succ m =>
        have hlt' : (m : Int) + 1 < l.length := by omega
        have hltm : (m : Int) < l.length := by omega
        have h0 : (0 : Int) ≤ (m : Int) + 1 := by omega
        have h0m : (0 : Int) ≤ m := by omega
        obtain ⟨hc0, hc1⟩ := HGk.out.sp (m + 1) l[m + 1] (List.getElem?_eq_getElem hlt)
        have hm : m < l.length := by omega
        obtain ⟨hd0, hd1⟩ := HGk.out.sp m l[m] (List.getElem?_eq_getElem hm)
        have HS := hid (HR.out.ok l[m + 1] (List.getElem_mem hlt))
        have HS2 := hid (HX.out l[m + 1] (List.getElem_mem hlt))
        have HAt := hid (rise_at HR.out m l[m] l[m + 1] (List.getElem?_eq_getElem hm) (List.getElem?_eq_getElem hlt))
        clear HGk
        generalize l[m + 1] = s at *
        generalize l[m] = s' at *
        obtain ⟨x, y⟩ := s
        obtain ⟨x', y'⟩ := s'
        simp only at hc0 hc1 hd0 hd1 HS HS2 HAt
        obtain ⟨p1, p2⟩ := HS.out
        have p3 := HS2.out
        have p4 := HAt.out
        unfold mx at p3
        have d1 : decide (x < 1) = false := by simpa using p1
        have d2 : decide (y < x) = false := by simpa using p2
        have d3 : decide (4294967295 < y) = false := by simpa using p3
        have d4 : decide (x - 1 ≤ y') = false := by simp; omega
        have d5 : decide ((0 : Int) < (m : Int) + 1) = true := by rw [decide_eq_true_eq]; omega
        go_wp2_with fail
        go_quiet (fail)
        go_wp2_with fail
        go_roundw
        case rel => exact ⟨m + 1 + 1, by omega, by go_num, HB.out.trans (drewN_below _ _ _)⟩
        case measure => simp [intOf]; omega
    · have hlt' : ¬ (k : Int) < l.length := by omega
      go_wp2_with fail
      go_ret
      exact ⟨rfl, HB.out⟩
end Go.Proofs.YtiiegjdclpkeeaaDoor
