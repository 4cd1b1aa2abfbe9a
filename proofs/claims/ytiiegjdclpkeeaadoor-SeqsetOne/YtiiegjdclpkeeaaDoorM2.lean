/- What this text holds: an end of a span as a number; the numbers that a span covers. -/
import Derived.Test.YtiiegjdclpkeeaaDoorM1
namespace Go.Proofs.YtiiegjdclpkeeaaDoor
open Go.RowKit
set_option linter.unusedVariables false
set_option linter.unusedSimpArgs false

def spV (s : Sp) : Value := .agg #[.int .i64 s.1, .int .i64 s.2]
theorem known_any (n most : Int) (w : World) : Calls Tryd.prog 27 #[.int .i64 n, .int .i64 most] w fun e w' => e = .returned (.int .i64 (kn n most)) ∧ w' = w := by
  by_cases h : n = 0
  · have hb : (n == 0) = true := by simp [h]
    have HK : Hid (kn n most = most) := by unfold kn; rw [Hid, if_pos h]
    clear h
    go_enter Tryd.func27, Tryd.ntmps27
    go_wp2_with fail
    go_ret
    rw [HK.out]; exact ⟨rfl, rfl⟩
  · have hb : (n == 0) = false := by simp [h]
    have HK : Hid (kn n most = n) := by unfold kn; rw [Hid, if_neg h]
    clear h
    go_enter Tryd.func27, Tryd.ntmps27
    go_wp2_with fail
    go_ret
    rw [HK.out]; exact ⟨rfl, rfl⟩
/-- What reach answers. -/
def ReachIs (s : Sp) (most : Int) (w : World) (e : Ending) (w' : World) : Prop := (∃ a b : Int, e = .returned (.tuple #[.agg #[.int .i64 a, .int .i64 b], .bool (rchB s most)]) ∧ (rchB s most = true → (a, b) = rchA s most)) ∧ Below w.heap.size w w'
theorem reach_no {s : Sp} {most : Int} (h : most < 1 ∧ (s.1 = 0 ∨ s.2 = 0)) : rchB s most = false := by unfold rchB; rw [if_pos h]
theorem reach_yes {s : Sp} {most : Int} (h : ¬ (most < 1 ∧ (s.1 = 0 ∨ s.2 = 0))) : rchB s most = decide (max 1 (min (kn s.1 most) (kn s.2 most)) ≤ max (kn s.1 most) (kn s.2 most)) := by unfold rchB; rw [if_neg h]; rfl
theorem reach_is {s1 s2 most a b : Int} (h : ¬ (most < 1 ∧ (s1 = 0 ∨ s2 = 0))) (ha : kn s1 most = a) (hb : kn s2 most = b) : rchB (s1, s2) most = decide (max 1 (min a b) ≤ max a b) ∧ rchA (s1, s2) most = (max 1 (min a b), max a b) := by
  subst ha hb
  exact ⟨reach_yes h, rfl⟩
set_option maxRecDepth 100000 in
set_option maxHeartbeats 4000000 in
theorem reach_any (s1 s2 most : Int) (w : World) : Calls Tryd.prog 18 #[.agg #[.int .i64 s1, .int .i64 s2], .int .i64 most] w (ReachIs (s1, s2) most w) := by
  by_cases h : most < 1 ∧ (s1 = 0 ∨ s2 = 0)
  · have HN := hid (reach_no (s := (s1, s2)) h)
    have fin : ∀ W : World, Below w.heap.size w W → ReachIs (s1, s2) most w (.returned (.tuple #[.agg #[.int .i64 0, .int .i64 0], .bool false])) W := fun W hb => ⟨⟨0, 0, by rw [HN.out], fun e => by rw [HN.out] at e; simp at e⟩, hb⟩
    obtain ⟨h1, h2⟩ := h
    have d1 : decide (most < 1) = true := by simpa using h1
    by_cases e1 : s1 = 0
    · have d2 : (s1 == 0) = true := by simp [e1]
      clear e1 h2
      have HF := hid fin
      clear fin
      go_enter Tryd.func18, Tryd.ntmps18
      go_wp2_with fail
      exact bodyPost_ret (v := .tuple #[.agg #[.int .i64 0, .int .i64 0], .bool false]) (by simp [results, Tryd.results18, go_sem]) rfl (HF.out _ (by repeat (first | exact Below.refl _ _ | refine Below.setCell ?_ (by simp) _ | refine Below.alloc ?_ (by simp) _)))
    · have d2 : (s1 == 0) = false := by simp [e1]
      have d3 : (s2 == 0) = true := by simp; omega
      clear e1 h2
      have HF := hid fin
      clear fin
      go_enter Tryd.func18, Tryd.ntmps18
      go_wp2_with fail
      exact bodyPost_ret (v := .tuple #[.agg #[.int .i64 0, .int .i64 0], .bool false]) (by simp [results, Tryd.results18, go_sem]) rfl (HF.out _ (by repeat (first | exact Below.refl _ _ | refine Below.setCell ?_ (by simp) _ | refine Below.alloc ?_ (by simp) _)))
  · by_cases h1 : most < 1
    · have d1 : decide (most < 1) = true := by simpa using h1
      have d2 : (s1 == 0) = false := by simp; omega
      have d3 : (s2 == 0) = false := by simp; omega
      have HF := hid (fun a b h1 h2 => @reach_is s1 s2 most a b h h1 h2)
      clear h
      go_enter Tryd.func18, Tryd.ntmps18
      go_wp2_with fail
      go_quiet ((go_at_call 27; exact Calls.quiet_of_same (known_any _ _ _)))
      obtain ⟨q1, q2⟩ := HF.out _ _ rfl rfl
      generalize kn s1 most = a at *
      generalize kn s2 most = b at *
      have HF2 : Hid (∀ (x y : Int) (W : World), max 1 (min a b) = x → max a b = y → Below w.heap.size w W → ReachIs (s1, s2) most w (.returned (.tuple #[.agg #[.int .i64 x, .int .i64 y], .bool (decide (x ≤ y))])) W) := fun x y W e1 e2 hb => ⟨⟨x, y, by rw [q1, e1, e2], fun _ => by rw [q2, e1, e2]⟩, hb⟩
      clear q1 q2 HF
      rcases Int.lt_trichotomy a b with hab | hab | hab
      · by_cases h1m : (1 : Int) < a
        · go_wp2_with fail
          go_region
          go_wp2_with fail
          refine bodyPost_ret (v := .tuple #[.agg #[.int .i64 a, .int .i64 b], .bool (decide ((a : Int) ≤ b))]) ?_ rfl (HF2.out a b _ ?_ ?_ ?_)
          · simp [results, Tryd.results18, go_sem] <;> omega
          · omega
          · omega
          · exact (by repeat (first | exact Below.refl _ _ | refine Below.setCell ?_ (by simp <;> omega) _ | refine Below.alloc ?_ (by simp <;> omega) _ | refine Below.drew ?_ | refine Below.trans ?_ (drewN_below _ _ _)))
        · go_wp2_with fail
          go_region
          go_wp2_with fail
          refine bodyPost_ret (v := .tuple #[.agg #[.int .i64 1, .int .i64 b], .bool (decide ((1 : Int) ≤ b))]) ?_ rfl (HF2.out 1 b _ ?_ ?_ ?_)
          · simp [results, Tryd.results18, go_sem]
          · omega
          · omega
          · exact (by repeat (first | exact Below.refl _ _ | refine Below.setCell ?_ (by simp <;> omega) _ | refine Below.alloc ?_ (by simp <;> omega) _ | refine Below.drew ?_ | refine Below.trans ?_ (drewN_below _ _ _)))
      · subst hab
        by_cases h1m : (1 : Int) < a
        · go_wp2_with fail
          go_region
          go_wp2_with fail
          refine bodyPost_ret (v := .tuple #[.agg #[.int .i64 a, .int .i64 a], .bool (decide ((a : Int) ≤ a))]) ?_ rfl (HF2.out a a _ ?_ ?_ ?_)
          · simp [results, Tryd.results18, go_sem]
          · omega
          · omega
          · exact (by repeat (first | exact Below.refl _ _ | refine Below.setCell ?_ (by simp <;> omega) _ | refine Below.alloc ?_ (by simp <;> omega) _ | refine Below.drew ?_ | refine Below.trans ?_ (drewN_below _ _ _)))
        · go_wp2_with fail
          go_region
          go_wp2_with fail
          refine bodyPost_ret (v := .tuple #[.agg #[.int .i64 1, .int .i64 a], .bool (decide ((1 : Int) ≤ a))]) ?_ rfl (HF2.out 1 a _ ?_ ?_ ?_)
          · simp [results, Tryd.results18, go_sem]
          · omega
          · omega
          · exact (by repeat (first | exact Below.refl _ _ | refine Below.setCell ?_ (by simp <;> omega) _ | refine Below.alloc ?_ (by simp <;> omega) _ | refine Below.drew ?_ | refine Below.trans ?_ (drewN_below _ _ _)))
      · by_cases h1m : (1 : Int) < b
        · go_wp2_with fail
          go_region
          go_wp2_with fail
          refine bodyPost_ret (v := .tuple #[.agg #[.int .i64 b, .int .i64 a], .bool (decide ((b : Int) ≤ a))]) ?_ rfl (HF2.out b a _ ?_ ?_ ?_)
          · simp [results, Tryd.results18, go_sem] <;> omega
          · omega
          · omega
          · exact (by repeat (first | exact Below.refl _ _ | refine Below.setCell ?_ (by simp <;> omega) _ | refine Below.alloc ?_ (by simp <;> omega) _ | refine Below.drew ?_ | refine Below.trans ?_ (drewN_below _ _ _)))
        · go_wp2_with fail
          go_region
          go_wp2_with fail
          refine bodyPost_ret (v := .tuple #[.agg #[.int .i64 1, .int .i64 a], .bool (decide ((1 : Int) ≤ a))]) ?_ rfl (HF2.out 1 a _ ?_ ?_ ?_)
          · simp [results, Tryd.results18, go_sem]
          · omega
          · omega
          · exact (by repeat (first | exact Below.refl _ _ | refine Below.setCell ?_ (by simp <;> omega) _ | refine Below.alloc ?_ (by simp <;> omega) _ | refine Below.drew ?_ | refine Below.trans ?_ (drewN_below _ _ _)))
    · have d1 : decide (most < 1) = false := by simpa using h1
      have HF := hid (fun a b h1 h2 => @reach_is s1 s2 most a b h h1 h2)
      clear h
      go_enter Tryd.func18, Tryd.ntmps18
      go_wp2_with fail
      go_quiet ((go_at_call 27; exact Calls.quiet_of_same (known_any _ _ _)))
      obtain ⟨q1, q2⟩ := HF.out _ _ rfl rfl
      generalize kn s1 most = a at *
      generalize kn s2 most = b at *
      have HF2 : Hid (∀ (x y : Int) (W : World), max 1 (min a b) = x → max a b = y → Below w.heap.size w W → ReachIs (s1, s2) most w (.returned (.tuple #[.agg #[.int .i64 x, .int .i64 y], .bool (decide (x ≤ y))])) W) := fun x y W e1 e2 hb => ⟨⟨x, y, by rw [q1, e1, e2], fun _ => by rw [q2, e1, e2]⟩, hb⟩
      clear q1 q2 HF
      rcases Int.lt_trichotomy a b with hab | hab | hab
      · by_cases h1m : (1 : Int) < a
        · go_wp2_with fail
          go_region
          go_wp2_with fail
          refine bodyPost_ret (v := .tuple #[.agg #[.int .i64 a, .int .i64 b], .bool (decide ((a : Int) ≤ b))]) ?_ rfl (HF2.out a b _ ?_ ?_ ?_)
          · simp [results, Tryd.results18, go_sem] <;> omega
          · omega
          · omega
          · exact (by repeat (first | exact Below.refl _ _ | refine Below.setCell ?_ (by simp <;> omega) _ | refine Below.alloc ?_ (by simp <;> omega) _ | refine Below.drew ?_ | refine Below.trans ?_ (drewN_below _ _ _)))
        · go_wp2_with fail
          go_region
          go_wp2_with fail
          refine bodyPost_ret (v := .tuple #[.agg #[.int .i64 1, .int .i64 b], .bool (decide ((1 : Int) ≤ b))]) ?_ rfl (HF2.out 1 b _ ?_ ?_ ?_)
          · simp [results, Tryd.results18, go_sem]
          · omega
          · omega
          · exact (by repeat (first | exact Below.refl _ _ | refine Below.setCell ?_ (by simp <;> omega) _ | refine Below.alloc ?_ (by simp <;> omega) _ | refine Below.drew ?_ | refine Below.trans ?_ (drewN_below _ _ _)))
      · subst hab
        by_cases h1m : (1 : Int) < a
        · go_wp2_with fail
          go_region
          go_wp2_with fail
          refine bodyPost_ret (v := .tuple #[.agg #[.int .i64 a, .int .i64 a], .bool (decide ((a : Int) ≤ a))]) ?_ rfl (HF2.out a a _ ?_ ?_ ?_)
          · simp [results, Tryd.results18, go_sem]
          · omega
          · omega
          · exact (by repeat (first | exact Below.refl _ _ | refine Below.setCell ?_ (by simp <;> omega) _ | refine Below.alloc ?_ (by simp <;> omega) _ | refine Below.drew ?_ | refine Below.trans ?_ (drewN_below _ _ _)))
        · go_wp2_with fail
          go_region
          go_wp2_with fail
          refine bodyPost_ret (v := .tuple #[.agg #[.int .i64 1, .int .i64 a], .bool (decide ((1 : Int) ≤ a))]) ?_ rfl (HF2.out 1 a _ ?_ ?_ ?_)
          · simp [results, Tryd.results18, go_sem]
          · omega
          · omega
          · exact (by repeat (first | exact Below.refl _ _ | refine Below.setCell ?_ (by simp <;> omega) _ | refine Below.alloc ?_ (by simp <;> omega) _ | refine Below.drew ?_ | refine Below.trans ?_ (drewN_below _ _ _)))
      · by_cases h1m : (1 : Int) < b
        · go_wp2_with fail
          go_region
          go_wp2_with fail
          refine bodyPost_ret (v := .tuple #[.agg #[.int .i64 b, .int .i64 a], .bool (decide ((b : Int) ≤ a))]) ?_ rfl (HF2.out b a _ ?_ ?_ ?_)
          · simp [results, Tryd.results18, go_sem] <;> omega
          · omega
          · omega
          · exact (by repeat (first | exact Below.refl _ _ | refine Below.setCell ?_ (by simp <;> omega) _ | refine Below.alloc ?_ (by simp <;> omega) _ | refine Below.drew ?_ | refine Below.trans ?_ (drewN_below _ _ _)))
        · go_wp2_with fail
          go_region
          go_wp2_with fail
          refine bodyPost_ret (v := .tuple #[.agg #[.int .i64 1, .int .i64 a], .bool (decide ((1 : Int) ≤ a))]) ?_ rfl (HF2.out 1 a _ ?_ ?_ ?_)
          · simp [results, Tryd.results18, go_sem]
          · omega
          · omega
          · exact (by repeat (first | exact Below.refl _ _ | refine Below.setCell ?_ (by simp <;> omega) _ | refine Below.alloc ?_ (by simp <;> omega) _ | refine Below.drew ?_ | refine Below.trans ?_ (drewN_below _ _ _)))
end Go.Proofs.YtiiegjdclpkeeaaDoor
