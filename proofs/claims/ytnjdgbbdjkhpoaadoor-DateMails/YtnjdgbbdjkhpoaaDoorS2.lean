/- What this text holds: the program's reader: has, takes, need, blanks, gap, end. -/
import Derived.Test.YtnjdgbbdjkhpoaaDoorS1
namespace Go.Proofs.YtnjdgbbdjkhpoaaDoor
open Go.RowKit
set_option linter.unusedVariables false
set_option linter.unusedSimpArgs false

theorem has_short {l b : Bs} (h : l.length < b.length) : hasP l b = false := by
  unfold hasP low
  rw [beq_eq_false_iff_ne]
  intro e
  have := congrArg List.length e
  simp at this
  omega
theorem low_take (l : Bs) (n : Nat) : low (l.take n) = (low l).take n := by simp [low, List.map_take]
theorem has_iff {l b : Bs} (h : b.length ≤ l.length) : hasP l b = true ↔ ∀ k, (hk : k < b.length) → lowB l[k] = lowB b[k] := by
  unfold hasP
  rw [beq_iff_eq]
  constructor
  · intro e k hk
    have := congrArg (fun x => x[k]?) e
    simp [low, List.getElem?_take, hk, show k < l.length by omega] at this
    exact this
  · intro e
    apply List.ext_getElem
    · simp [low]; omega
    · intro k h1 h2
      simp [low] at h1 h2 ⊢
      exact e k h2
theorem has_no {l b : Bs} (k : Nat) (hk : k < b.length) (h : b.length ≤ l.length) (hn : lowB l[k] ≠ lowB b[k]) : hasP l b = false := by
  rw [← Bool.not_eq_true, has_iff h]
  intro e
  exact hn (e k hk)
theorem low_eq (c d : UInt8) : (((lowB c).toNat : Int) != (lowB d).toNat) = decide (lowB c ≠ lowB d) := by
  rw [Bool.eq_iff_iff]
  simp [← UInt8.toNat_inj]
  omega

theorem more_drew {w v : World} (h : ∃ n, v = w.drewN n) (m : Nat) : ∃ n, v.drewN m = w.drewN n := by obtain ⟨n, rfl⟩ := h; exact ⟨n + m, by rw [World.drewN_drewN]⟩

set_option maxRecDepth 100000 in
set_option maxHeartbeats 1000000 in
theorem has_any {w : World} {b : Nat} {s : Rd} (h : RAt w b s) (x : Bs) (h1 : s.l.length ≤ 1000000) (h2 : x.length ≤ 1000000) :
    Calls Tryd.prog 85 #[.pointer (some ⟨b, 0, none⟩), .string (str x)] w fun e w' => e = .returned (.bool (hasP s.l x)) ∧ ∃ n, w' = w.drewN n := by
  obtain ⟨l, t⟩ := s
  have hsl := str_size l
  have hsx := str_size x
  have c0 := h.c0
  have H := hid h
  simp only at h1 c0
  clear h
  by_cases hlt : l.length < x.length
  · have hlt' : (l.length : Int) < x.length := by omega
    rw [has_short hlt]
    go_enter Tryd.func85, Tryd.ntmps85
    go_wp2_with fail
    go_ret
    exact ⟨rfl, 0, rfl⟩
  · have hlt' : ¬ (l.length : Int) < x.length := by omega
    go_enter Tryd.func85, Tryd.ntmps85
    go_wp2_with fail
    go_loopw [16] (fun i wr => ∃ k : Nat, k ≤ x.length ∧ i = .int .i64 k ∧ (∃ n, wr = w.drewN n) ∧ ∀ j, (hj : j < k) → (hx : j < x.length) → (hl : j < l.length) → lowB l[j] = lowB x[j]) (fun i _ => x.length - (intOf i).toNat)
    case atStart => exact ⟨0, by omega, rfl, ⟨0, rfl⟩, fun j hj => by omega⟩
    case round =>
      obtain ⟨k, hk, rfl, hw, ha⟩ := hrel
      have HA := hid ha
      have HW := hid hw
      have c0' : wr.cell? ⟨b, 0, none⟩ = some (.string (str l)) := by obtain ⟨n, rfl⟩ := hw; exact c0
      clear ha hw
      by_cases hkx : k < x.length
      · have hkx' : (k : Int) < x.length := by omega
        have hkl' : (k : Int) < l.length := by omega
        have hks : k < (str x).size := by omega
        have hkl : k < (str l).size := by omega
        have g1 : ((str l)[k]'hkl) = l[k]'(by omega) := rfl
        have g2 : ((str x)[k]'hks) = x[k] := rfl
        have HQ := hid (low_eq (l[k]'(by omega)) (x[k]))
        by_cases he : lowB (l[k]'(by omega)) = lowB (x[k])
        · have hq : (((lowB (l[k]'(by omega))).toNat : Int) != (lowB (x[k])).toNat) = false := by rw [HQ.out]; simp [he]
          have HE := hid he
          clear he
          go_wp2_with fail
          go_quiet ((go_at_call 93; exact Calls.quiet_of_same (small_any _ _)))
          go_wp2_with fail
          go_roundw
          case rel => exact ⟨k + 1, by omega, by go_num, more_drew HW.out nq, fun j hj hx hl => by
            by_cases hjk : j < k
            · exact HA.out j hjk hx hl
            · obtain rfl : j = k := by omega
              exact HE.out⟩
          case measure => simp [intOf]; omega
        · have hq : (((lowB (l[k]'(by omega))).toNat : Int) != (lowB (x[k])).toNat) = true := by rw [HQ.out]; simp [he]
          have HE := hid (has_no (l := l) k hkx (by omega) he)
          clear he
          go_wp2_with fail
          go_quiet ((go_at_call 93; exact Calls.quiet_of_same (small_any _ _)))
          go_wp2_with fail
          go_ret
          rw [HE.out]
          exact ⟨rfl, more_drew HW.out nq⟩
      · have hkx' : ¬ (k : Int) < x.length := by omega
        obtain rfl : k = x.length := by omega
        have HY : Hid (hasP l x = true) := (has_iff (by omega)).2 (fun j hj => HA.out j hj hj (by omega))
        go_wp2_with fail
        go_ret
        rw [HY.out]
        exact ⟨rfl, HW.out⟩
end Go.Proofs.YtnjdgbbdjkhpoaaDoor
