/- What this text holds: what comes of the lines of WireLong. -/
import Derived.Test.YtikcbgoocljgnaaDoorP2
namespace Go.Proofs.YtikcbgoocljgnaaDoor
set_option linter.unusedVariables false
set_option linter.unusedSimpArgs false

def endS (on : Bool) : Bs := if on then [43, 125, 13, 10] else [125, 13, 10]
def tS (on : Bool) : Bs := [116, 32, 123, 53, 48, 48, 48, 48] ++ endS on
def uS (on : Bool) : Bs := [117, 32, 123, 53, 48, 48, 48, 49] ++ endS on
def tF (on : Bool) : Fd := ⟨[[116, 32]], [], if on then 10 else 9, [], 50000, 0, false, .lit⟩
def uF (on : Bool) : Fd := if on then { Fd.zero with left := 50001, nx := .plit } else Fd.zero
theorem take_t (on : Bool) : takeP Fd.zero (tS on) = (tF on, if on then [] else [(2, [], [])]) := by
  cases on <;> rfl
theorem take_u (on : Bool) : takeP Fd.zero (uS on) = (uF on, [(3, [[117, 32]], [])]) := by
  cases on <;> rfl
theorem take_tl (on : Bool) : takeP (tF on) (many 50000 97 ++ [13, 10]) = (Fd.zero, [(1, [[116, 32], []], [many 50000 97])]) := by
  have hl : (tF on).left = (many 50000 97).length := by rw [many_len]; rfl
  rw [take_app, take_lit (many 50000 97) (tF on) rfl hl (by intro e; have := congrArg List.length e; rw [many_len] at this; simp at this)]
  have := take_last [] { tF on with lits := (tF on).lits ++ [(tF on).under ++ many 50000 97], under := [], left := 0, nx := .line } rfl rfl (by simp) (by cases on <;> simp [tF]) (mark_no (by simp))
  rw [List.nil_append] at this
  simp only [this]
  rfl
end Go.Proofs.YtikcbgoocljgnaaDoor
