/- What this text holds: From, tags and texts that are right. -/
import Derived.Test.YtpjcpdnolcehcaaGreatDoorM23
namespace Go.Proofs.YtpjcpdnolcehcaaGreatDoor
open Go.RowKit
set_option linter.unusedVariables false
set_option linter.unusedSimpArgs false

set_option maxRecDepth 100000 in
theorem rfrom_any (w : World) (N : Nat → Prop) (v : Value) (f : List Int) (h : LAt eI w N v f) : Calls Tryz.prog 73 #[v] w fun e w' => e = .returned (.bool (frB f)) ∧ w' = w := by
  rcases f with _ | ⟨a, f⟩
  · obtain ⟨p, c, rfl, hc⟩ := h.slice
    clear h
    go_enter Tryz.func73, Tryz.ntmps73
    go_wp2_with fail
    go_ret
    exact ⟨rfl, rfl⟩
  · obtain ⟨g, o, c, rfl, hc, hga, _, _⟩ := h.at_ (by simp)
    have c0 := hga.i 0 a rfl
    simp only [Nat.add_zero] at c0
    rcases f with _ | ⟨b, f⟩
    · clear h hga
      have HF : Hid (frB [a] = decide (0 ≤ a)) := by simp [Hid, frB]
      generalize frB [a] = q at *
      go_enter Tryz.func73, Tryz.ntmps73
      go_wp2_with fail
      all_goals
        go_ret
        refine ⟨congrArg (fun b => Ending.returned (Value.bool b)) ?_, rfl⟩
        rw [HF.out]
    · have HF : Hid (frB (a :: b :: f) = false) := by simp [Hid, frB]
      have h1 : (((a :: b :: f).length : Nat) : Int) ≠ 1 := by simp; omega
      have h1' : ((((a :: b :: f).length : Nat) : Int) == 1) = false := beq_eq_false_iff_ne.2 h1
      have h0 : (((a :: b :: f).length : Nat) : Int) ≠ 0 := by simp; omega
      have h0' : ((((a :: b :: f).length : Nat) : Int) == 0) = false := beq_eq_false_iff_ne.2 h0
      clear h hga
      generalize (a :: b :: f).length = n at *
      generalize frB (a :: b :: f) = q at *
      go_enter Tryz.func73, Tryz.ntmps73
      go_wp2_with fail
      all_goals
        go_ret
        refine ⟨congrArg (fun b => Ending.returned (Value.bool b)) ?_, rfl⟩
        rw [HF.out]
theorem contains_is : ∀ s : Bs, Go.Lib.containsAny s [42, 43] = s.any fun c => c == 42 || c == 43
  | [] => rfl
  | c :: s => by
    have ih := contains_is s
    have hge := Go.Lib.indexAny_ge [42, 43] s
    unfold Go.Lib.containsAny at ih ⊢
    rw [List.any_cons, ← ih]
    have e : ([42, 43] : Bs).contains c = (c == 42 || c == 43) := by simp [List.contains, List.elem]; cases (c == 42) <;> cases (c == 43) <;> rfl
    have e2 : Go.Lib.indexAny (c :: s) [42, 43] = if (c == 42 || c == 43) = true then 0 else if (Go.Lib.indexAny s [42, 43] == -1) = true then -1 else Go.Lib.indexAny s [42, 43] + 1 := by
      rw [← e]; rfl
    rw [e2]
    cases (c == 42 || c == 43)
    · simp only [Bool.false_or]
      rw [if_neg (by simp)]
      split
      · rename_i h; simp at h; rw [h]
      · rename_i h
        simp at h
        rw [decide_eq_decide]
        omega
    · simp
set_option maxRecDepth 100000 in
set_option maxHeartbeats 1000000 in
theorem rtag_any (s : Bs) (hs : s.length ≤ 1000000000) (w : World) : Calls Tryz.prog 28 #[.string (str s)] w fun e w' => e = .returned (.bool (tagB s)) ∧ Below w.heap.size w w' := by
  by_cases h1 : s = [42]
  · have g : (str s).toList = ([42] : Bs) := by rw [toL]; exact h1
    have HF : Hid (tagB s = true) := by rw [Hid, h1]; rfl
    clear h1
    go_enter Tryz.func28, Tryz.ntmps28
    go_wp2_with fail
    go_ret
    rw [HF.out]
    exact ⟨rfl, Below.refl _ _⟩
  · by_cases h2 : s = [43]
    · have g : ((str s).toList == ([42] : Bs)) = false := by rw [toL, beq_eq_false_iff_ne]; exact h1
      have g2 : (str s).toList = ([43] : Bs) := by rw [toL]; exact h2
      have HF : Hid (tagB s = true) := by rw [Hid, h2]; rfl
      clear h1 h2
      go_enter Tryz.func28, Tryz.ntmps28
      go_wp2_with fail
      go_ret
      rw [HF.out]
      exact ⟨rfl, Below.refl _ _⟩
    · have g : ((str s).toList == ([42] : Bs)) = false := by rw [toL, beq_eq_false_iff_ne]; exact h1
      have g2 : ((str s).toList == ([43] : Bs)) = false := by rw [toL, beq_eq_false_iff_ne]; exact h2
      have HT : Hid (tagB s = ((s != []) && s.all letB && !(s.any fun c => c == 42 || c == 43))) := by
        unfold Hid tagB
        rw [beq_eq_false_iff_ne.2 h1, beq_eq_false_iff_ne.2 h2]
        simp
      have C := only_letter s hs
      have E : s.all letB = true → ∀ w, Calls Tryz.prog 49 #[.string (str s), .string (str [42, 43])] w fun e w' => e = .returned (.bool (s.any fun c => c == 42 || c == 43)) ∧ Below w.heap.size w w' := by
        intro ha w
        rw [← contains_is]
        refine Tryz.strings_ContainsAny_laid (str s) (str [42, 43]) w (by rw [str_size]; omega) (by decide) ?_ ?_
        · intro j b hb
          exact letB_ascii (List.all_eq_true.1 ha b (List.mem_of_getElem? hb))
        · intro j b hb
          have : b ∈ ([42, 43] : Bs) := List.mem_of_getElem? hb
          simp at this
          rcases this with rfl | rfl <;> decide
      by_cases h0 : s = []
      · have g3 : (str s).toList.isEmpty = true := by rw [toL, h0]; rfl
        have HF : Hid (tagB s = false) := by rw [Hid, HT.out, h0]; rfl
        clear h0 h1 h2 HT E
        go_enter Tryz.func28, Tryz.ntmps28
        go_wp2_with fail
        go_ret
        rw [HF.out]
        exact ⟨rfl, Below.refl _ _⟩
      · have g3 : (str s).toList.isEmpty = false := by rw [toL, List.isEmpty_eq_false_iff]; exact h0
        have hz : (s != []) = true := by simpa using h0
        have HF : Hid (tagB s = (s.all letB && !(s.any fun c => c == 42 || c == 43))) := by rw [Hid, HT.out, hz]; simp
        clear h0 h1 h2 HT hz
        generalize s.all letB = p at *
        generalize (s.any fun c => c == 42 || c == 43) = q at *
        generalize tagB s = z at *
        go_enter Tryz.func28, Tryz.ntmps28
        go_wp2_with fail
        refine (C _).mono ?_
        rintro e w2 ⟨rfl, hb⟩
        have HB := hid hb
        clear hb C
        cases p
        · go_wp2_with fail
          go_ret
          rw [HF.out]
          exact ⟨rfl, HB.out⟩
        · go_wp2_with fail
          refine (E (by first | rfl | trivial) _).mono ?_
          rintro e w3 ⟨rfl, hb⟩
          have HB2 := hid (HB.out.trans (hb.mono HB.out.size))
          clear hb E
          go_wp2_with fail
          go_ret
          rw [HF.out]
          refine ⟨?_, HB2.out⟩
          simp [g3]
end Go.Proofs.YtpjcpdnolcehcaaGreatDoor
