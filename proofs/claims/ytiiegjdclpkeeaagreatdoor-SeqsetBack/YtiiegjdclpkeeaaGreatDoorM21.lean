/- What this text holds: whether a set is right; a number's and a span's text. -/
import Derived.Test.YtiiegjdclpkeeaaGreatDoorM14
import Derived.Test.YtiiegjdclpkeeaaGreatDoorP3
namespace Go.Proofs.YtiiegjdclpkeeaaGreatDoor
open Go.RowKit
set_option linter.unusedVariables false
set_option linter.unusedSimpArgs false

theorem below_grow (w : World) (k : Nat) (os : Array Obj) : Below w.heap.size w (Go.Sort.grow (w.drewN k) os) :=
  ⟨rfl, rfl, rfl, by simp [Go.Sort.grow], fun i hi => by simp only [Go.Sort.grow, World.heap_drewN]; rw [Array.getElem?_append_left hi]⟩
theorem rightEnd_any (n : Int) (w : World) : Calls Tryz.prog 31 #[.int .i64 n] w fun e w' => e = .returned (.bool (rEnd n)) ∧ w' = w := by
  by_cases h0 : (0 : Int) ≤ n
  · by_cases h1 : n ≤ 4294967295
    · have HX : Hid (rEnd n = true) := (rEnd_iff n).2 ⟨h0, h1⟩
      go_enter Tryz.func31, Tryz.ntmps31
      go_wp2_with fail
      go_ret
      rw [HX.out]; exact ⟨rfl, rfl⟩
    · have HX : Hid (rEnd n = false) := by
        rw [Hid, Bool.eq_false_iff]
        intro e
        exact h1 ((rEnd_iff n).1 e).2
      go_enter Tryz.func31, Tryz.ntmps31
      go_wp2_with fail
      go_ret
      rw [HX.out]; exact ⟨rfl, rfl⟩
  · have HX : Hid (rEnd n = false) := by
      rw [Hid, Bool.eq_false_iff]
      intro e
      exact h0 ((rEnd_iff n).1 e).1
    go_enter Tryz.func31, Tryz.ntmps31
    go_wp2_with fail
    go_ret
    rw [HX.out]; exact ⟨rfl, rfl⟩
theorem right_no {l : List Sp} {k : Nat} (hk : k < l.length) (h : rSp l[k] = false) : rightB l = false := by
  rw [Bool.eq_false_iff]
  intro e
  have := ((right_iff l).1 e).2 _ (List.getElem_mem hk)
  rw [h] at this
  simp at this
set_option maxRecDepth 100000 in
set_option maxHeartbeats 4000000 in
theorem right_any {w : World} {v : Value} {l : List Sp} (h : GL eSp w v l) (hl : l.length ≤ 1000000) : Calls Tryz.prog 15 #[v] w (SameIs (rightB l) w) := by
  obtain ⟨a, c, rfl, hg, hc⟩ := gl_slice h
  have HG := hid hg
  clear hg h
  by_cases h1 : (l.length : Int) < 1
  · have HX : Hid (rightB l = false) := by
      rw [Hid, Bool.eq_false_iff]; intro e
      have := ((right_iff l).1 e).1; omega
    go_enter Tryz.func15, Tryz.ntmps15
    go_wp2_with fail
    go_ret
    rw [HX.out]; exact ⟨rfl, Below.refl _ _⟩
  · by_cases h2 : (1000 : Int) < l.length
    · have HX : Hid (rightB l = false) := by
        rw [Hid, Bool.eq_false_iff]; intro e
        have := ((right_iff l).1 e).1; omega
      go_enter Tryz.func15, Tryz.ntmps15
      go_wp2_with fail
      go_ret
      rw [HX.out]; exact ⟨rfl, Below.refl _ _⟩
    · go_enter Tryz.func15, Tryz.ntmps15
      go_wp2_with fail
      go_loopw [15] (fun i wr => ∃ k : Nat, k ≤ l.length ∧ i = .int .i64 k ∧ Below w.heap.size w wr ∧ ∀ j, j < k → (hj : j < l.length) → rSp l[j] = true) (fun i _ => l.length - (intOf i).toNat)
      case atStart => exact ⟨0, by omega, rfl, Below.refl _ _, fun j h => by omega⟩
      case round =>
        obtain ⟨k, hk, rfl, hb1, ha⟩ := hrel
        have HB := hid hb1
        have HA := hid ha
        clear hb1 ha
        by_cases hlt : k < l.length
        · have hlt' : (k : Int) < l.length := by omega
          have h0 : (0 : Int) ≤ k := by omega
          have hne : l ≠ [] := by rintro rfl; simp at hlt
          obtain ⟨g, o, rfl, hga, _⟩ := HG.out hne
          obtain ⟨hc0, hc1⟩ := (hga.later HB.out).sp k l[k] (List.getElem?_eq_getElem hlt)
          have HNo := hid (fun h => right_no hlt h)
          have HY := hid (fun (h : rSp l[k] = true) j (hj : j < k + 1) (hjl : j < l.length) => show rSp l[j] = true from by
            by_cases e : j = k
            · subst e; exact h
            · exact HA.out j (by omega) hjl)
          clear hga hne HG
          generalize l[k] = s at *
          obtain ⟨x, y⟩ := s
          simp only at hc0 hc1
          have HR : Hid (rSp (x, y) = (rEnd x && rEnd y)) := rfl
          rw [HR.out] at HNo HY
          have C1 := fun W => rightEnd_any x W
          have C2 := fun W => rightEnd_any y W
          generalize rEnd x = bx at *
          generalize rEnd y = by_ at *
          cases bx with
          | false =>
            have HX := hid (HNo.out rfl)
            clear HNo HY C2
            go_wp2_with (go_at_call 31; refine (C1 _).mono ?_; rintro e w1 ⟨rfl, rfl⟩)
            go_ret
            rw [HX.out]; exact ⟨rfl, HB.out.alloc HB.out.size _⟩
          | true =>
            cases by_ with
            | false =>
              have HX := hid (HNo.out rfl)
              clear HNo HY
              go_wp2_with (go_at_call 31; first | (refine (C1 _).mono ?_; rintro e w1 ⟨rfl, rfl⟩) | (refine (C2 _).mono ?_; rintro e w1 ⟨rfl, rfl⟩))
              go_ret
              rw [HX.out]; exact ⟨rfl, HB.out.alloc HB.out.size _⟩
            | true =>
              have HX := hid (HY.out rfl)
              clear HNo HY
              go_wp2_with (go_at_call 31; first | (refine (C1 _).mono ?_; rintro e w1 ⟨rfl, rfl⟩) | (refine (C2 _).mono ?_; rintro e w1 ⟨rfl, rfl⟩))
              go_roundw
              case rel => exact ⟨k + 1, by omega, by go_num, HB.out.alloc HB.out.size _, HX.out⟩
              case measure => simp [intOf]; omega
        · have hlt' : ¬ (k : Int) < l.length := by omega
          have HX : Hid (rightB l = true) := (right_iff l).2 ⟨⟨by omega, by omega⟩, fun s hs => by
            obtain ⟨j, hj, rfl⟩ := List.getElem_of_mem hs
            exact HA.out j (by omega) hj⟩
          go_wp2_with fail
          go_ret
          rw [HX.out]; exact ⟨rfl, HB.out⟩
/-- A text of a call, and what lay there is as it was. -/
def TxtIs (t : Bs) (w : World) (e : Ending) (w' : World) : Prop := e = .returned (.string (str t)) ∧ Below w.heap.size w w'
theorem endText_any {w : World} (hE : Env w) (n : Int) (h0 : 0 ≤ n) (h1 : n ≤ mx) : Calls Tryz.prog 58 #[.int .i64 n] w (TxtIs (endB n) w) := by
  unfold mx at h1
  by_cases h : n = 0
  · subst h
    go_enter Tryz.func58, Tryz.ntmps58
    go_wp2_with fail
    go_ret
    exact ⟨rfl, Below.refl _ _⟩
  · have hb : (n == 0) = false := by simpa using h
    have HX : Hid (endB n = Go.Lib.itoa n) := by unfold endB Go.Lib.itoa; rw [Hid, if_neg h, if_neg (by omega)]
    have C := Tryz.strconv_Itoa n (by omega) (by omega) w hE.1
    go_enter Tryz.func58, Tryz.ntmps58
    go_wp2_with fail
    refine C.mono ?_
    rintro e w1 ⟨rfl, kk, os, rfl⟩
    go_wp2_with fail
    go_ret
    rw [HX.out]
    exact ⟨rfl, below_grow _ _ _⟩
end Go.Proofs.YtiiegjdclpkeeaaGreatDoor
