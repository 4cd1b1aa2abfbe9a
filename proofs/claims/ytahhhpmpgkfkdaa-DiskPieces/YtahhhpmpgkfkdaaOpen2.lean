/- What this text holds: calls that were handed in, with their bytes' bounds. -/
import Derived.Test.YtahhhpmpgkfkdaaOpen
namespace Go.Proofs.Ytahhhpmpgkfkdaa
open Go.RowKit
set_option linter.unusedVariables false
section
variable {H : Type} {enc : TypeId × Value → H} {W : World} {held : Bool}
/-- One call. -/
theorem open_act2 {n : Nat} {cs : List Value} {y : DataW H × List MemPlace} (hl : cs.length = 5) (h : DataW.trod enc Try.prog W 0 (fun _ => true) held n 35 cs = some y) :
    ∃ v : ActV, cs = [.int .i64 v.kind, .int .i64 v.at_, .int .i64 v.n, .int .u8 v.by_, .slice v.ka v.klen v.kcap] ∧ -9223372036854775808 ≤ v.n ∧ v.n ≤ 9223372036854775807 ∧ 0 ≤ v.by_ ∧ v.by_ ≤ 255 ∧ KeepsOk W v.ka v.klen v.ks := by
  obtain ⟨xs, k, hk, hxy, _, hxl, hf⟩ := DataW.trod_struct Try.underlying35 h
  have hxl5 : xs.length = 5 := hxl
  match cs, hl, xs, hxl5 with
  | [v0, v1, v2, v3, v4], _, [y0, y1, y2, y3, y4], _ =>
    have g0 : DataW.trod enc Try.prog W 0 (fun _ => true) held k 3 [v0] = some y0 := by
      have h9 : DataW.trod enc Try.prog W 0 (fun _ => true) held k 3 (([v0, v1, v2, v3, v4].drop 0).take (Try.prog.cellsOf 3)) = [y0, y1, y2, y3, y4][0]? := hf 0 _ rfl
      rw [cells3] at h9
      exact h9
    have g1 : DataW.trod enc Try.prog W 0 (fun _ => true) held k 3 [v1] = some y1 := by
      have h9 : DataW.trod enc Try.prog W 0 (fun _ => true) held k 3 (([v0, v1, v2, v3, v4].drop 1).take (Try.prog.cellsOf 3)) = [y0, y1, y2, y3, y4][1]? := hf 1 _ rfl
      rw [cells3] at h9
      exact h9
    have g2 : DataW.trod enc Try.prog W 0 (fun _ => true) held k 3 [v2] = some y2 := by
      have h9 : DataW.trod enc Try.prog W 0 (fun _ => true) held k 3 (([v0, v1, v2, v3, v4].drop 2).take (Try.prog.cellsOf 3)) = [y0, y1, y2, y3, y4][2]? := hf 2 _ rfl
      rw [cells3] at h9
      exact h9
    have g3 : DataW.trod enc Try.prog W 0 (fun _ => true) held k 5 [v3] = some y3 := by
      have h9 : DataW.trod enc Try.prog W 0 (fun _ => true) held k 5 (([v0, v1, v2, v3, v4].drop 3).take (Try.prog.cellsOf 5)) = [y0, y1, y2, y3, y4][3]? := hf 3 _ rfl
      rw [cells5] at h9
      exact h9
    have g4 : DataW.trod enc Try.prog W 0 (fun _ => true) held k 33 [v4] = some y4 := by
      have h9 : DataW.trod enc Try.prog W 0 (fun _ => true) held k 33 (([v0, v1, v2, v3, v4].drop 4).take (Try.prog.cellsOf 33)) = [y0, y1, y2, y3, y4][4]? := hf 4 _ rfl
      rw [cells33] at h9
      exact h9
    obtain ⟨i0, e0, _, _⟩ := DataW.trod_int Try.underlying3 g0
    obtain ⟨i1, e1, _, _⟩ := DataW.trod_int Try.underlying3 g1
    obtain ⟨i2, e2, _, w2⟩ := DataW.trod_int Try.underlying3 g2
    obtain ⟨i3, e3, _, w3⟩ := DataW.trod_int Try.underlying5 g3
    obtain ⟨ka, klen, kcap, e4⟩ : ∃ a l c, v4 = .slice a l c := by
      rcases Deep.open_slice Try.underlying33 g4 with ⟨hcs, _⟩ | ⟨a, len, cap, m, n, D, Pl, hcs, _⟩
      · simp at hcs; exact ⟨_, _, _, hcs⟩
      · simp at hcs; exact ⟨_, _, _, hcs⟩
    simp only [List.cons.injEq, and_true] at e0 e1 e2 e3
    subst e0 e1 e2 e3 e4
    obtain ⟨ks, hks⟩ := open_keeps g4
    have hb : -9223372036854775808 ≤ i2 ∧ i2 ≤ 9223372036854775807 := by simpa [Lit.wf, IntKind.min, IntKind.max, IntKind.signed, IntKind.bits] using w2
    have hc : 0 ≤ i3 ∧ i3 ≤ 255 := by simpa [Lit.wf, IntKind.min, IntKind.max, IntKind.signed, IntKind.bits] using w3
    exact ⟨⟨i0, i1, i2, i3, ka, klen, kcap, ks⟩, rfl, hb.1, hb.2, hc.1, hc.2, hks⟩

/-- Calls. -/
theorem open_acts2 {fuel : Nat} {a : Option Addr} {len cap : Nat} {x : DataW H × List MemPlace} (h : DataW.trod enc Try.prog W 0 (fun _ => true) held fuel 22 [.slice a len cap] = some x) : ∃ l, ActsOk W a len l ∧ ∀ v ∈ l, 0 ≤ v.by_ ∧ v.by_ ≤ 255 := by
  rcases Deep.open_slice Try.underlying22 h with ⟨hcs, _⟩ | ⟨a', len', cap', m, n, D, Pl, hcs, _, hl, hm, hmm, _, hx⟩
  · simp at hcs
    obtain ⟨rfl, rfl, rfl⟩ := hcs
    exact ⟨[], ⟨rfl, by unfold maxLen; omega, .inl rfl⟩, by simp⟩
  · simp only [List.cons.injEq, Value.slice.injEq, and_true] at hcs
    obtain ⟨rfl, rfl, rfl⟩ := hcs
    simp only [if_true] at hmm
    subst hmm
    rw [cells35] at hx
    have hact : ∀ i, i < m → ∃ v : ActV, W.cell? (a'.add (i * 5)) = some (.int .i64 v.kind) ∧ W.cell? (a'.add (i * 5 + 1)) = some (.int .i64 v.at_) ∧ W.cell? (a'.add (i * 5 + 2)) = some (.int .i64 v.n) ∧
        W.cell? (a'.add (i * 5 + 3)) = some (.int .u8 v.by_) ∧ W.cell? (a'.add (i * 5 + 4)) = some (.slice v.ka v.klen v.kcap) ∧ -9223372036854775808 ≤ v.n ∧ v.n ≤ 9223372036854775807 ∧ 0 ≤ v.by_ ∧ v.by_ ≤ 255 ∧ KeepsOk W v.ka v.klen v.ks := fun i hi => by
      obtain ⟨cs', h1, h2⟩ := hx i hi
      obtain ⟨_, hlen, hcell⟩ := World.cells?_some h1
      obtain ⟨v, rfl, b1, b2, b3, b4, hk⟩ := open_act2 hlen h2
      refine ⟨v, ?_, ?_, ?_, ?_, ?_, b1, b2, b3, b4, hk⟩
      · have := hcell 0 (by omega); rw [Deep.add_add] at this; simpa using this
      · have := hcell 1 (by omega); rw [Deep.add_add] at this; simpa using this
      · have := hcell 2 (by omega); rw [Deep.add_add] at this; simpa using this
      · have := hcell 3 (by omega); rw [Deep.add_add] at this; simpa using this
      · have := hcell 4 (by omega); rw [Deep.add_add] at this; simpa using this
    have hinh : Inhabited ActV := ⟨⟨0, 0, 0, 0, none, 0, 0, []⟩⟩
    obtain ⟨f, hf⟩ := Deep.choose_lt hact
    refine ⟨(List.range len).map f, ⟨by simp, by omega, ?_⟩, fun v hv => by
      simp only [List.mem_map, List.mem_range] at hv
      obtain ⟨i, hi, rfl⟩ := hv
      obtain ⟨_, _, _, _, _, _, _, b3, b4, _⟩ := hf i (by omega)
      exact ⟨b3, b4⟩⟩
    by_cases h0 : len = 0
    · exact .inl h0
    · right
      obtain ⟨ab, ao, sp⟩ := a'
      have hsp : sp = none := by
        have := (hf 0 (by omega)).1
        simp only [Nat.zero_mul, Addr.add, if_true, World.cell?] at this
        cases sp with
        | none => rfl
        | some s => split at this <;> simp at this
      subst hsp
      refine ⟨ab, ao, rfl, fun j hj => ?_⟩
      simp only [List.length_map, List.length_range] at hj
      obtain ⟨k0, k1, k2, k3, k4, b1, b2, _, _, hk⟩ := hf j (by omega)
      rw [Addr.add_mid] at k0 k1 k2 k3 k4
      simp only [List.getElem_map, List.getElem_range]
      exact ⟨k0, by rw [← Nat.add_assoc] at k1; exact k1, by rw [← Nat.add_assoc] at k2; exact k2, by rw [← Nat.add_assoc] at k3; exact k3, by rw [← Nat.add_assoc] at k4; exact k4, b1, b2, hk⟩
end
end Go.Proofs.Ytahhhpmpgkfkdaa
