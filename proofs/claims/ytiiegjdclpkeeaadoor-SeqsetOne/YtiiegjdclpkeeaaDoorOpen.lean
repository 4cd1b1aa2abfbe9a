/- What this text holds: how lists of spans and of numbers that come in lie in memory. -/
import Derived.Test.YtiiegjdclpkeeaaDoorFrame
import Derived.Deep.SlicePairs
import Derived.ProofKit
import Derived.OpenShut
import Derived.Below
namespace Go.Proofs.YtiiegjdclpkeeaaDoor
open Go.ChangeShapes Go.WideShapes Go.ChangeAt Go.RowKit
set_option linter.unusedVariables false
set_option linter.unusedSimpArgs false

theorem laidOut : laidOutB Tryd.prog = true := by kernel_rfl
theorem cells3 : Tryd.prog.cellsOf 3 = 1 := by kernel_rfl
theorem cells44 : Tryd.prog.cellsOf 26 = 2 := by kernel_rfl
def I64 (n : Int) : Prop := -9223372036854775808 ≤ n ∧ n ≤ 9223372036854775807
/-- Spans, and numbers, that came in. -/
def SpansOk (W : World) (a : Option Addr) (len cap : Nat) (l : List Sp) : Prop := GL eSp W (.slice a len cap) l ∧ l.length = len ∧ ∀ s ∈ l, I64 s.1 ∧ I64 s.2
def NumsOk (W : World) (a : Option Addr) (len cap : Nat) (l : List Int) : Prop := GL eI W (.slice a len cap) l ∧ l.length = len ∧ ∀ s ∈ l, I64 s
section
variable {H : Type} {enc : TypeId × Value → H} {W : World} {held : Bool}

set_option maxRecDepth 100000 in
theorem open_one {fuel : Nat} {cl : List Value} {x : DataW H × List MemPlace} (hl : cl.length = 2) (h : DataW.trod enc Tryd.prog W 0 (fun _ => true) held fuel 26 cl = some x) : ∃ s : Sp, cl = eSp.enc s ∧ I64 s.1 ∧ I64 s.2 := by
  obtain ⟨xs, k, hk, hxy, _, hxl, hf⟩ := DataW.trod_struct Tryd.underlying26 h
  have hxl5 : xs.length = 2 := hxl
  match cl, hl, xs, hxl5 with
  | [v0, v1], _, [y0, y1], _ =>
    have g0 : DataW.trod enc Tryd.prog W 0 (fun _ => true) held k 3 [v0] = some y0 := by
      have h9 : DataW.trod enc Tryd.prog W 0 (fun _ => true) held k 3 (([v0, v1].drop 0).take (Tryd.prog.cellsOf 3)) = [y0, y1][0]? := hf 0 _ rfl
      rw [cells3] at h9
      exact h9
    have g1 : DataW.trod enc Tryd.prog W 0 (fun _ => true) held k 3 [v1] = some y1 := by
      have h9 : DataW.trod enc Tryd.prog W 0 (fun _ => true) held k 3 (([v0, v1].drop 1).take (Tryd.prog.cellsOf 3)) = [y0, y1][1]? := hf 1 _ rfl
      rw [cells3] at h9
      exact h9
    obtain ⟨n0, e0, _, w0⟩ := DataW.trod_int Tryd.underlying3 g0
    simp only [List.cons.injEq, and_true] at e0
    subst e0
    obtain ⟨n1, e1, _, w1⟩ := DataW.trod_int Tryd.underlying3 g1
    simp only [List.cons.injEq, and_true] at e1
    subst e1
    exact ⟨(n0, n1), rfl, bounds_i64 w0, bounds_i64 w1⟩
set_option maxRecDepth 100000 in
theorem open_spans {fuel : Nat} {a : Option Addr} {len cap : Nat} {x : DataW H × List MemPlace} (h : DataW.trod enc Tryd.prog W 0 (fun _ => true) held fuel 22 [.slice a len cap] = some x) : ∃ l, SpansOk W a len cap l := by
  rcases Deep.open_slice Tryd.underlying22 h with ⟨hcs, _⟩ | ⟨a', len', cap', m, n, D, Pl, hcs, _, hl, hm, hmm, _, hx⟩
  · simp at hcs
    obtain ⟨rfl, rfl, rfl⟩ := hcs
    exact ⟨[], (GO.nil eSp W 0).gl, rfl, fun s hs => by simp at hs⟩
  · simp only [List.cons.injEq, Value.slice.injEq, and_true] at hcs
    obtain ⟨rfl, rfl, rfl⟩ := hcs
    simp only [if_true] at hmm
    subst hmm
    rw [cells44] at hx
    have hact : ∀ i, i < m → ∃ s : Sp, (W.cell? (a'.add (i * 2)) = some (.int .i64 s.1) ∧ W.cell? (a'.add (i * 2 + 1)) = some (.int .i64 s.2)) ∧ I64 s.1 ∧ I64 s.2 := by
      intro i hi
      obtain ⟨cs', h1, h2⟩ := hx i hi
      obtain ⟨_, hlen, hcell⟩ := World.cells?_some h1
      obtain ⟨s, rfl, hw⟩ := open_one hlen h2
      refine ⟨s, ⟨?_, ?_⟩, hw⟩
      · have := hcell 0 (by simp [eSp]); rw [Deep.add_add] at this; simpa [eSp] using this
      · have := hcell 1 (by simp [eSp]); rw [Deep.add_add] at this; simpa [eSp] using this
    have hinh : Inhabited Sp := ⟨(0, 0)⟩
    obtain ⟨f, hf⟩ := Deep.choose_lt hact
    refine ⟨(List.range len).map f, ⟨_, _, by rw [List.length_map, List.length_range], by simp; omega, ?_⟩, by simp, fun s hs => by
      simp only [List.mem_map, List.mem_range] at hs
      obtain ⟨i, hi, rfl⟩ := hs
      exact (hf i (by omega)).2⟩
    by_cases h0 : len = 0
    · left; subst h0; rfl
    · right
      obtain ⟨ab, ao, sp⟩ := a'
      have hsp : sp = none := by
        have := (hf 0 (by omega)).1.1
        simp only [Nat.zero_mul, Addr.add, if_true, World.cell?] at this
        cases sp with
        | none => rfl
        | some s => split at this <;> simp at this
      subst hsp
      have hz := (hf 0 (by omega)).1.1
      rw [Addr.add_mid] at hz
      refine ⟨ab, ao, rfl, fun j i s v h1 h2 => ?_, World.block_lt_of_cell? W _ hz⟩
      have hj : j < len := by have := (List.getElem?_eq_some_iff.1 h1).1; simpa using this
      simp only [List.getElem?_map, List.getElem?_range hj, Option.map_some, Option.some.injEq] at h1
      subst h1
      obtain ⟨⟨k0, k1⟩, _⟩ := hf j (by omega)
      rw [Addr.add_mid] at k0 k1
      match i, h2 with
      | 0, h2 => simp [eSp] at h2; subst h2; exact k0
      | 1, h2 => simp [eSp] at h2; subst h2; exact k1
      | i + 2, h2 => simp [eSp] at h2
set_option maxRecDepth 100000 in
theorem open_nums {fuel : Nat} {a : Option Addr} {len cap : Nat} {x : DataW H × List MemPlace} (h : DataW.trod enc Tryd.prog W 0 (fun _ => true) held fuel 23 [.slice a len cap] = some x) : ∃ l, NumsOk W a len cap l := by
  rcases Deep.open_slice Tryd.underlying23 h with ⟨hcs, _⟩ | ⟨a', len', cap', m, n, D, Pl, hcs, _, hl, hm, hmm, _, hx⟩
  · simp at hcs
    obtain ⟨rfl, rfl, rfl⟩ := hcs
    exact ⟨[], (GO.nil eI W 0).gl, rfl, fun s hs => by simp at hs⟩
  · simp only [List.cons.injEq, Value.slice.injEq, and_true] at hcs
    obtain ⟨rfl, rfl, rfl⟩ := hcs
    simp only [if_true] at hmm
    subst hmm
    rw [cells3] at hx
    have hact : ∀ i, i < m → ∃ s : Int, W.cell? (a'.add (i * 1)) = some (.int .i64 s) ∧ I64 s := by
      intro i hi
      obtain ⟨cs', h1, h2⟩ := hx i hi
      obtain ⟨_, hlen, hcell⟩ := World.cells?_some h1
      match cs', hlen with
      | [v0], _ =>
        obtain ⟨n0, e0, _, w0⟩ := DataW.trod_int Tryd.underlying3 h2
        simp only [List.cons.injEq, and_true] at e0
        subst e0
        have := hcell 0 (by simp)
        rw [Deep.add_add] at this
        exact ⟨n0, by simpa using this, bounds_i64 w0⟩
    obtain ⟨f, hf⟩ := Deep.choose_lt hact
    refine ⟨(List.range len).map f, ⟨_, _, by rw [List.length_map, List.length_range], by simp; omega, ?_⟩, by simp, fun s hs => by
      simp only [List.mem_map, List.mem_range] at hs
      obtain ⟨i, hi, rfl⟩ := hs
      exact (hf i (by omega)).2⟩
    by_cases h0 : len = 0
    · left; subst h0; rfl
    · right
      obtain ⟨ab, ao, sp⟩ := a'
      have hsp : sp = none := by
        have := (hf 0 (by omega)).1
        simp only [Nat.zero_mul, Addr.add, if_true, World.cell?] at this
        cases sp with
        | none => rfl
        | some s => split at this <;> simp at this
      subst hsp
      have hz := (hf 0 (by omega)).1
      rw [Addr.add_mid] at hz
      refine ⟨ab, ao, rfl, fun j i s v h1 h2 => ?_, World.block_lt_of_cell? W _ hz⟩
      have hj : j < len := by have := (List.getElem?_eq_some_iff.1 h1).1; simpa using this
      simp only [List.getElem?_map, List.getElem?_range hj, Option.map_some, Option.some.injEq] at h1
      subst h1
      have k0 := (hf j (by omega)).1
      rw [Addr.add_mid] at k0
      match i, h2 with
      | 0, h2 => simp [eI] at h2; subst h2; exact k0
      | i + 1, h2 => simp [eI] at h2
end
end Go.Proofs.YtiiegjdclpkeeaaDoor
