/- What this text holds: a node that is handed in. -/
import Derived.Test.YtkipigbfbhecjaaN1
import Derived.ProofKit
import Derived.OpenShut
import Derived.SliceStrings
import Derived.ChangeSlices
import Derived.Deep.SlicePairs
namespace Go.Proofs.Ytkipigbfbhecjaa
open Go.ChangeShapes Go.WideShapes Go.ChangeAt Go.RowKit
set_option linter.unusedVariables false
set_option linter.unusedSimpArgs false

theorem cells9 : Try.prog.cellsOf 9 = 1 := by kernel_rfl
theorem cells3 : Try.prog.cellsOf 3 = 1 := by kernel_rfl
theorem cellsB : Try.prog.cellsOf 4 = 1 := by kernel_rfl
theorem cells22 : Try.prog.cellsOf 22 = 1 := by kernel_rfl
theorem cells23 : Try.prog.cellsOf 23 = 1 := by kernel_rfl
theorem cells24 : Try.prog.cellsOf 24 = 1 := by kernel_rfl
theorem cells51 : Try.prog.cellsOf 51 = 3 := by kernel_rfl
theorem cells26 : Try.prog.cellsOf 26 = 4 := by kernel_rfl
section
variable {H : Type} {enc : TypeId × Value → H} {W : World} {held : Bool}
theorem spot_none {W : World} {kb ko : Nat} {sp : Option Nat} {v : Value} (h : W.cell? ((⟨kb, ko, sp⟩ : Addr).add 0) = some v) : sp = none := by
  simp only [Addr.add, if_true, World.cell?] at h
  cases sp with
  | none => rfl
  | some s => split at h <;> simp at h
theorem open_keys {fuel : Nat} {v : Value} {x : DataW H × List MemPlace} (h : DataW.trod enc Try.prog W 0 (fun _ => true) held fuel 22 [v] = some x) : ∃ a cap l, v = .slice a (List.length l) cap ∧ At W a (kc l) ∧ (l.length ≤ cap ∧ cap ≤ maxLen) ∧ ∀ s ∈ l, s.size ≤ maxLen := by
  rcases Go.ChangeShapes.open_strings Try.underlying22 Try.underlying9 cells9 h with ⟨hcs, _⟩ | ⟨a', len', cap', ss, hcs, _, hl, hm, hz, _, hc, hw⟩
  · simp only [List.cons.injEq, and_true] at hcs
    exact ⟨none, 0, [], hcs, .inl rfl, ⟨Nat.le_refl _, Nat.zero_le _⟩, fun s hs => nomatch hs⟩
  · simp only [List.cons.injEq, and_true] at hcs
    simp only [if_true] at hz
    have hlen : (ss.take len').length = len' := by rw [List.length_take]; omega
    refine ⟨some a', cap', ss.take len', by rw [hlen]; exact hcs, ?_, by rw [hlen]; exact ⟨hl, hm⟩, fun s hs => hw s (List.mem_of_mem_take hs)⟩
    by_cases h0 : len' = 0
    · exact .inl (by rw [h0]; rfl)
    · right
      obtain ⟨kb, ko, sp⟩ := a'
      obtain rfl := spot_none (hc 0 (by omega))
      refine ⟨kb, ko, rfl, fun j u hu => ?_⟩
      simp only [kc, List.getElem?_map, Option.map_eq_some_iff] at hu
      obtain ⟨s, hs, rfl⟩ := hu
      rw [List.getElem?_take] at hs
      split at hs
      · have := hc j (by omega)
        rw [Addr.add_mid, List.getD_eq_getElem?_getD, hs] at this
        exact this
      · cases hs
theorem open_kids {fuel : Nat} {v : Value} {x : DataW H × List MemPlace} (h : DataW.trod enc Try.prog W 0 (fun _ => true) held fuel 24 [v] = some x) : ∃ a cap l, v = .slice a (List.length l) cap ∧ At W a (dc l) ∧ (l.length ≤ cap ∧ cap ≤ maxLen) := by
  rcases Go.ChangeShapes.open_ints Try.underlying24 Try.underlying3 cells3 h with ⟨hcs, _⟩ | ⟨a', len', cap', ss, hcs, _, hl, hm, hz, _, hc, hw⟩
  · simp only [List.cons.injEq, and_true] at hcs
    exact ⟨none, 0, [], hcs, .inl rfl, ⟨Nat.le_refl _, Nat.zero_le _⟩⟩
  · simp only [List.cons.injEq, and_true] at hcs
    simp only [if_true] at hz
    have hlen : (ss.take len').length = len' := by rw [List.length_take]; omega
    refine ⟨some a', cap', ss.take len', by rw [hlen]; exact hcs, ?_, by rw [hlen]; exact ⟨hl, hm⟩⟩
    by_cases h0 : len' = 0
    · exact .inl (by rw [h0]; rfl)
    · right
      obtain ⟨kb, ko, sp⟩ := a'
      obtain rfl := spot_none (hc 0 (by omega))
      refine ⟨kb, ko, rfl, fun j u hu => ?_⟩
      simp only [dc, List.getElem?_map, Option.map_eq_some_iff] at hu
      obtain ⟨s, hs, rfl⟩ := hu
      rw [List.getElem?_take] at hs
      split at hs
      · have := hc j (by omega)
        rw [Addr.add_mid, List.getD_eq_getElem?_getD, hs] at this
        exact this
      · cases hs
set_option maxRecDepth 100000 in
theorem open_it {n : Nat} {cs : List Value} {y : DataW H × List MemPlace} (hl : cs.length = 3) (h : DataW.trod enc Try.prog W 0 (fun _ => true) held n 51 cs = some y) : ∃ x : It, cs = itc x ∧ x.val.size ≤ maxLen := by
  obtain ⟨xs, k, hk, hxy, _, hxl, hf⟩ := DataW.trod_struct Try.underlying51 h
  have hxl5 : xs.length = 3 := hxl
  match cs, hl, xs, hxl5 with
  | [v0, v1, v2], _, [y0, y1, y2], _ =>
    have g0 : DataW.trod enc Try.prog W 0 (fun _ => true) held k 9 [v0] = some y0 := by
      have h9 : DataW.trod enc Try.prog W 0 (fun _ => true) held k 9 (([v0, v1, v2].drop 0).take (Try.prog.cellsOf 9)) = [y0, y1, y2][0]? := hf 0 _ rfl
      rw [cells9] at h9
      exact h9
    have g1 : DataW.trod enc Try.prog W 0 (fun _ => true) held k 3 [v1] = some y1 := by
      have h9 : DataW.trod enc Try.prog W 0 (fun _ => true) held k 3 (([v0, v1, v2].drop 1).take (Try.prog.cellsOf 3)) = [y0, y1, y2][1]? := hf 1 _ rfl
      rw [cells3] at h9
      exact h9
    have g2 : DataW.trod enc Try.prog W 0 (fun _ => true) held k 3 [v2] = some y2 := by
      have h9 : DataW.trod enc Try.prog W 0 (fun _ => true) held k 3 (([v0, v1, v2].drop 2).take (Try.prog.cellsOf 3)) = [y0, y1, y2][2]? := hf 2 _ rfl
      rw [cells3] at h9
      exact h9
    obtain ⟨s, e0, _, hs⟩ := DataW.trod_string Try.underlying9 g0
    obtain ⟨i1, e1, _, _⟩ := DataW.trod_int Try.underlying3 g1
    obtain ⟨i2, e2, _, _⟩ := DataW.trod_int Try.underlying3 g2
    simp only [List.cons.injEq, and_true] at e0 e1 e2
    subst e0 e1 e2
    exact ⟨⟨s, i1, i2⟩, rfl, hs⟩
theorem open_items {fuel : Nat} {v : Value} {x : DataW H × List MemPlace} (h : DataW.trod enc Try.prog W 0 (fun _ => true) held fuel 23 [v] = some x) : ∃ a cap l, v = .slice a (List.length l) cap ∧ At W a (ic l) ∧ (l.length ≤ cap ∧ cap ≤ maxLen) ∧ ∀ x ∈ l, x.val.size ≤ maxLen := by
  rcases Deep.open_slice Try.underlying23 h with ⟨hcs, _⟩ | ⟨a', len', cap', m, n, D, Pl, hcs, _, hl, hm, hmm, _, hx⟩
  · simp only [List.cons.injEq, and_true] at hcs
    exact ⟨none, 0, [], hcs, .inl rfl, ⟨Nat.le_refl _, Nat.zero_le _⟩, fun s hs => nomatch hs⟩
  · simp only [List.cons.injEq, and_true] at hcs
    simp only [if_true] at hmm
    rw [cells51] at hx
    have hit : ∀ i, i < m → ∃ x : It, (∀ j u, (itc x)[j]? = some u → W.cell? (a'.add (i * 3 + j)) = some u) ∧ x.val.size ≤ maxLen := fun i hi => by
      obtain ⟨cs', h1, h2⟩ := hx i hi
      obtain ⟨_, hlen, hcell⟩ := World.cells?_some h1
      obtain ⟨x, rfl, hs⟩ := open_it hlen h2
      refine ⟨x, fun j u hu => ?_, hs⟩
      have hj : j < 3 := by
        have := List.getElem?_eq_some_iff.1 hu
        exact this.1
      have := hcell j hj
      rw [Deep.add_add] at this
      rw [this, ← hu]
    have hinh : Inhabited It := ⟨⟨ByteArray.empty, 0, 0⟩⟩
    obtain ⟨f, hf⟩ := Deep.choose_lt hit
    have hml : len' ≤ m := by omega
    have hlen : ((List.range len').map f).length = len' := by simp
    refine ⟨some a', cap', (List.range len').map f, by rw [hlen]; exact hcs, ?_, by rw [hlen]; exact ⟨hl, hm⟩, fun x hx => by
      simp only [List.mem_map, List.mem_range] at hx
      obtain ⟨i, hi, rfl⟩ := hx
      exact (hf i (by omega)).2⟩
    by_cases h0 : len' = 0
    · exact .inl (by rw [h0]; rfl)
    · right
      obtain ⟨kb, ko, sp⟩ := a'
      obtain rfl := spot_none (by have := (hf 0 (by omega)).1 0 _ rfl; simpa using this)
      refine ⟨kb, ko, rfl, fun j u hu => ?_⟩
      have hjl : j < len' * 3 := by
        have h9 := (List.getElem?_eq_some_iff.1 hu).1
        rw [ic_length, hlen] at h9
        exact h9
      obtain ⟨q1, q2, q3⟩ := ic_at ((List.range len').map f) (j / 3) (by rw [hlen]; omega)
      have hff := (hf (j / 3) (by omega)).1
      have hgi : ((List.range len').map f)[j / 3]'(by rw [hlen]; omega) = f (j / 3) := by simp
      rw [hgi] at q1 q2 q3
      rcases (by omega : j = j / 3 * 3 ∨ j = j / 3 * 3 + 1 ∨ j = j / 3 * 3 + 2) with e | e | e
      · rw [e] at hu ⊢
        rw [q1] at hu
        have := hff 0 _ rfl
        rw [Addr.add_mid, Nat.add_zero] at this
        rw [this]; exact hu
      · rw [e] at hu ⊢
        rw [q2] at hu
        have := hff 1 _ rfl
        rw [Addr.add_mid] at this
        rw [this]; exact hu
      · rw [e] at hu ⊢
        rw [q3] at hu
        have := hff 2 _ rfl
        rw [Addr.add_mid] at this
        rw [this]; exact hu
set_option maxRecDepth 100000 in
theorem open_node {fuel : Nat} {cs : Array Value} {x : DataW H × List MemPlace} (hsz : cs.size = 4) (h : DataW.trod enc Try.prog W 0 (fun _ => true) held fuel 26 cs.toList = some x) : ∃ n, NAt W (.agg cs) n := by
  obtain ⟨xs, k, hk, hxy, _, hxl, hf⟩ := DataW.trod_struct Try.underlying26 h
  have hxl5 : xs.length = 4 := hxl
  obtain ⟨cl⟩ := cs
  have hl : cl.length = 4 := hsz
  match cl, hl, xs, hxl5 with
  | [v0, v1, v2, v3], _, [y0, y1, y2, y3], _ =>
    have g0 : DataW.trod enc Try.prog W 0 (fun _ => true) held k 4 [v0] = some y0 := by
      have h9 : DataW.trod enc Try.prog W 0 (fun _ => true) held k 4 (([v0, v1, v2, v3].drop 0).take (Try.prog.cellsOf 4)) = [y0, y1, y2, y3][0]? := hf 0 _ rfl
      rw [cellsB] at h9
      exact h9
    have g1 : DataW.trod enc Try.prog W 0 (fun _ => true) held k 22 [v1] = some y1 := by
      have h9 : DataW.trod enc Try.prog W 0 (fun _ => true) held k 22 (([v0, v1, v2, v3].drop 1).take (Try.prog.cellsOf 22)) = [y0, y1, y2, y3][1]? := hf 1 _ rfl
      rw [cells22] at h9
      exact h9
    have g2 : DataW.trod enc Try.prog W 0 (fun _ => true) held k 23 [v2] = some y2 := by
      have h9 : DataW.trod enc Try.prog W 0 (fun _ => true) held k 23 (([v0, v1, v2, v3].drop 2).take (Try.prog.cellsOf 23)) = [y0, y1, y2, y3][2]? := hf 2 _ rfl
      rw [cells23] at h9
      exact h9
    have g3 : DataW.trod enc Try.prog W 0 (fun _ => true) held k 24 [v3] = some y3 := by
      have h9 : DataW.trod enc Try.prog W 0 (fun _ => true) held k 24 (([v0, v1, v2, v3].drop 3).take (Try.prog.cellsOf 24)) = [y0, y1, y2, y3][3]? := hf 3 _ rfl
      rw [cells24] at h9
      exact h9
    obtain ⟨b, e0, _⟩ := DataW.trod_bool Try.underlying4 g0
    simp only [List.cons.injEq, and_true] at e0
    subst e0
    obtain ⟨ka, kp, keys, rfl, hk1, hk2, hk3⟩ := open_keys g1
    obtain ⟨ia, ep, items, rfl, hi1, hi2, hi3⟩ := open_items g2
    obtain ⟨da, dp, kids, rfl, hd1, hd2⟩ := open_kids g3
    exact ⟨⟨b, keys, items, kids⟩, ⟨⟨ka, kp, ia, ep, da, dp, rfl, hk1, hi1, hd1, hk2, hi2, hd2⟩, hk3, hi3⟩⟩
theorem open_str {fuel : Nat} {s : ByteArray} {x : DataW H × List MemPlace} (h : DataW.trod enc Try.prog W 0 (fun _ => true) held fuel 9 [.string s] = some x) : s.size ≤ maxLen := by
  obtain ⟨s', e, _, hs⟩ := DataW.trod_string Try.underlying9 h
  simp only [List.cons.injEq, Value.string.injEq, and_true] at e
  rw [e]; exact hs
end
end Go.Proofs.Ytkipigbfbhecjaa
