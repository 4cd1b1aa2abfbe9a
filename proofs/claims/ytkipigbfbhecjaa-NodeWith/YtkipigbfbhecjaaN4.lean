/- What this text holds: Right, of the program and of the document. -/
import Derived.Test.YtkipigbfbhecjaaN3
namespace Go.Proofs.Ytkipigbfbhecjaa
open Go.RowKit
set_option linter.unusedVariables false
set_option linter.unusedSimpArgs false

set_option maxRecDepth 100000 in
set_option maxHeartbeats 1000000 in
theorem right_any {w : World} {v : Value} {n : Nd} (h : NAt w v n) (sm : n.small) : Calls Try.prog 12 #[v] w fun e w' => e = .returned (.bool (rightB n)) ∧ Below w.heap.size w w' := by
  obtain ⟨ka, kp, ia, ep, da, dp, rfl, hk, hi, hd, ⟨k1, k2⟩, ⟨i1, i2⟩, ⟨d1, d2⟩⟩ := h.at_
  have HK := hid hk
  have HI := hid hi
  have HD := hid hd
  have HS := hid h.ks
  have K2 := hid (Nat.le_trans k1 k2)
  have I2 := hid (Nat.le_trans i1 i2)
  have D2 := hid (Nat.le_trans d1 d2)
  unfold maxLen at k2 i2 d2
  clear h hk hi hd
  obtain ⟨leaf, keys, items, kids⟩ := n
  unfold nv
  obtain ⟨s1, s2, s3⟩ := sm
  simp only at *
  have HB0 := hid (below_box w (.cells #[.bool leaf, .slice ka keys.length kp, .slice ia items.length ep, .slice da kids.length dp] 26))
  cases leaf
  all_goals (go_enter Try.func12, Try.ntmps12)
  go_wp2_with (first | (go_at_call 27; refine (rising_any (l := keys) (HK.out.later (below_box w _)) HS.out K2.out).mono ?_; rintro e w1 ⟨rfl, rfl⟩) | (go_at_call 28; refine (alli_any (l := items) (HI.out.later (below_box w _)) I2.out ?hn).mono ?_; (case hn => omega); rintro e w1 ⟨rfl, hb1⟩; have HB1 := hid ((below_box w _).trans (hb1.mono (below_box w _).size)); clear hb1) | (go_at_call 30; refine (allk_any (l := kids) (HD.out.later (below_box w _)) D2.out ?hn).mono ?_; (case hn => omega); rintro e w1 ⟨rfl, hb1⟩; have HB1 := hid ((below_box w _).trans (hb1.mono (below_box w _).size)); clear hb1))
  all_goals (go_ret; refine ⟨?_, by first | exact HB1.out | exact below_box w _⟩; first | (simp_all [rightB]; done) | (simp_all [rightB]; omega) | trace_state)
end Go.Proofs.Ytkipigbfbhecjaa
