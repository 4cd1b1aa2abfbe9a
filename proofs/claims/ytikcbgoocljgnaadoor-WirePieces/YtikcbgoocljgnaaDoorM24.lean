/- What this text holds: a byte of a line, whatever it is; a feed takes bytes; the example. -/
import Derived.Test.YtikcbgoocljgnaaDoorM21
import Derived.Test.YtikcbgoocljgnaaDoorM23
namespace Go.Proofs.YtikcbgoocljgnaaDoor
open Go.RowKit
set_option linter.unusedVariables false
set_option linter.unusedSimpArgs false

theorem ofLine_ok : OfLineOk := by
  intro w b own F h c h1 h2 h3 h4
  unfold ofLineP
  by_cases hc : c = 10
  · rw [if_pos hc]
    subst hc
    exact ofLine_end h h1 h2 h3 (by omega)
  · rw [if_neg hc]
    by_cases hs : 4000 < F.size + (sufT (F.under ++ [c]) 13).length
    · rw [if_pos hs]
      exact ofLine_long h c hc h1 h3 h4 hs
    · rw [if_neg hs]
      exact ofLine_more h c hc h3 h4 hs
end Go.Proofs.YtikcbgoocljgnaaDoor
