/- What this text holds: how a date, and a list of dates, that come in lie in memory. -/
import Derived.Test.YtnjdgbbdjkhpoaaDoorFrame
import Derived.Deep.SlicePairs
import Derived.ProofKit
import Derived.OpenShut
import Derived.Below
namespace Go.Proofs.YtnjdgbbdjkhpoaaDoor
open Go.ChangeShapes Go.WideShapes Go.ChangeAt Go.RowKit
set_option linter.unusedVariables false
set_option linter.unusedSimpArgs false

theorem laidOut : laidOutB Tryd.prog = true := by kernel_rfl
theorem cells3 : Tryd.prog.cellsOf 3 = 1 := by kernel_rfl
theorem cells29 : Tryd.prog.cellsOf 29 = 7 := by kernel_rfl
/-- Dates lie in a slice. -/
structure DatesOk (W : World) (a : Option Addr) (len : Nat) (l : List Dt) : Prop where
  len_ : l.length = len
  small : len ≤ maxLen
  at_ : len = 0 ∨ ∃ b o, a = some ⟨b, o, none⟩ ∧ ∀ j, (h : j < l.length) → W.cell? ⟨b, o + j * 7, none⟩ = some (.int .i64 l[j].y) ∧ W.cell? ⟨b, o + j * 7 + 1, none⟩ = some (.int .i64 l[j].mo) ∧ W.cell? ⟨b, o + j * 7 + 2, none⟩ = some (.int .i64 l[j].d) ∧ W.cell? ⟨b, o + j * 7 + 3, none⟩ = some (.int .i64 l[j].h) ∧ W.cell? ⟨b, o + j * 7 + 4, none⟩ = some (.int .i64 l[j].mi) ∧ W.cell? ⟨b, o + j * 7 + 5, none⟩ = some (.int .i64 l[j].s) ∧ W.cell? ⟨b, o + j * 7 + 6, none⟩ = some (.int .i64 l[j].z)
section
variable {H : Type} {enc : TypeId × Value → H} {W : World} {held : Bool}

set_option maxRecDepth 100000 in
theorem open_list {fuel : Nat} {cl : List Value} {x : DataW H × List MemPlace} (hl : cl.length = 7) (h : DataW.trod enc Tryd.prog W 0 (fun _ => true) held fuel 29 cl = some x) : ∃ t, cl = dtL t := by
  obtain ⟨xs, k, hk, hxy, _, hxl, hf⟩ := DataW.trod_struct Tryd.underlying29 h
  have hxl5 : xs.length = 7 := hxl
  match cl, hl, xs, hxl5 with
  | [v0, v1, v2, v3, v4, v5, v6], _, [y0, y1, y2, y3, y4, y5, y6], _ =>
    have g0 : DataW.trod enc Tryd.prog W 0 (fun _ => true) held k 3 [v0] = some y0 := by
      have h9 : DataW.trod enc Tryd.prog W 0 (fun _ => true) held k 3 (([v0, v1, v2, v3, v4, v5, v6].drop 0).take (Tryd.prog.cellsOf 3)) = [y0, y1, y2, y3, y4, y5, y6][0]? := hf 0 _ rfl
      rw [cells3] at h9
      exact h9
    have g1 : DataW.trod enc Tryd.prog W 0 (fun _ => true) held k 3 [v1] = some y1 := by
      have h9 : DataW.trod enc Tryd.prog W 0 (fun _ => true) held k 3 (([v0, v1, v2, v3, v4, v5, v6].drop 1).take (Tryd.prog.cellsOf 3)) = [y0, y1, y2, y3, y4, y5, y6][1]? := hf 1 _ rfl
      rw [cells3] at h9
      exact h9
    have g2 : DataW.trod enc Tryd.prog W 0 (fun _ => true) held k 3 [v2] = some y2 := by
      have h9 : DataW.trod enc Tryd.prog W 0 (fun _ => true) held k 3 (([v0, v1, v2, v3, v4, v5, v6].drop 2).take (Tryd.prog.cellsOf 3)) = [y0, y1, y2, y3, y4, y5, y6][2]? := hf 2 _ rfl
      rw [cells3] at h9
      exact h9
    have g3 : DataW.trod enc Tryd.prog W 0 (fun _ => true) held k 3 [v3] = some y3 := by
      have h9 : DataW.trod enc Tryd.prog W 0 (fun _ => true) held k 3 (([v0, v1, v2, v3, v4, v5, v6].drop 3).take (Tryd.prog.cellsOf 3)) = [y0, y1, y2, y3, y4, y5, y6][3]? := hf 3 _ rfl
      rw [cells3] at h9
      exact h9
    have g4 : DataW.trod enc Tryd.prog W 0 (fun _ => true) held k 3 [v4] = some y4 := by
      have h9 : DataW.trod enc Tryd.prog W 0 (fun _ => true) held k 3 (([v0, v1, v2, v3, v4, v5, v6].drop 4).take (Tryd.prog.cellsOf 3)) = [y0, y1, y2, y3, y4, y5, y6][4]? := hf 4 _ rfl
      rw [cells3] at h9
      exact h9
    have g5 : DataW.trod enc Tryd.prog W 0 (fun _ => true) held k 3 [v5] = some y5 := by
      have h9 : DataW.trod enc Tryd.prog W 0 (fun _ => true) held k 3 (([v0, v1, v2, v3, v4, v5, v6].drop 5).take (Tryd.prog.cellsOf 3)) = [y0, y1, y2, y3, y4, y5, y6][5]? := hf 5 _ rfl
      rw [cells3] at h9
      exact h9
    have g6 : DataW.trod enc Tryd.prog W 0 (fun _ => true) held k 3 [v6] = some y6 := by
      have h9 : DataW.trod enc Tryd.prog W 0 (fun _ => true) held k 3 (([v0, v1, v2, v3, v4, v5, v6].drop 6).take (Tryd.prog.cellsOf 3)) = [y0, y1, y2, y3, y4, y5, y6][6]? := hf 6 _ rfl
      rw [cells3] at h9
      exact h9
    obtain ⟨n0, e0, _⟩ := DataW.trod_int Tryd.underlying3 g0
    simp only [List.cons.injEq, and_true] at e0
    subst e0
    obtain ⟨n1, e1, _⟩ := DataW.trod_int Tryd.underlying3 g1
    simp only [List.cons.injEq, and_true] at e1
    subst e1
    obtain ⟨n2, e2, _⟩ := DataW.trod_int Tryd.underlying3 g2
    simp only [List.cons.injEq, and_true] at e2
    subst e2
    obtain ⟨n3, e3, _⟩ := DataW.trod_int Tryd.underlying3 g3
    simp only [List.cons.injEq, and_true] at e3
    subst e3
    obtain ⟨n4, e4, _⟩ := DataW.trod_int Tryd.underlying3 g4
    simp only [List.cons.injEq, and_true] at e4
    subst e4
    obtain ⟨n5, e5, _⟩ := DataW.trod_int Tryd.underlying3 g5
    simp only [List.cons.injEq, and_true] at e5
    subst e5
    obtain ⟨n6, e6, _⟩ := DataW.trod_int Tryd.underlying3 g6
    simp only [List.cons.injEq, and_true] at e6
    subst e6
    exact ⟨⟨n0, n1, n2, n3, n4, n5, n6⟩, rfl⟩
theorem open_date {fuel : Nat} {cs : Array Value} {x : DataW H × List MemPlace} (hsz : cs.size = 7) (h : DataW.trod enc Tryd.prog W 0 (fun _ => true) held fuel 29 cs.toList = some x) : ∃ t, cs = (dtL t).toArray := by
  obtain ⟨cl⟩ := cs
  obtain ⟨t, e⟩ := open_list (cl := cl) hsz h
  exact ⟨t, by rw [e]⟩
set_option maxRecDepth 100000 in
theorem open_dates {fuel : Nat} {a : Option Addr} {len cap : Nat} {x : DataW H × List MemPlace} (h : DataW.trod enc Tryd.prog W 0 (fun _ => true) held fuel 47 [.slice a len cap] = some x) : ∃ l, DatesOk W a len l := by
  rcases Deep.open_slice Tryd.underlying47 h with ⟨hcs, _⟩ | ⟨a', len', cap', m, n, D, Pl, hcs, _, hl, hm, hmm, _, hx⟩
  · simp at hcs
    obtain ⟨rfl, rfl, rfl⟩ := hcs
    exact ⟨[], rfl, by unfold maxLen; omega, .inl rfl⟩
  · simp only [List.cons.injEq, Value.slice.injEq, and_true] at hcs
    obtain ⟨rfl, rfl, rfl⟩ := hcs
    simp only [if_true] at hmm
    subst hmm
    rw [cells29] at hx
    have hact : ∀ i, i < m → ∃ t : Dt, W.cell? (a'.add (i * 7)) = some (.int .i64 t.y) ∧ W.cell? (a'.add (i * 7 + 1)) = some (.int .i64 t.mo) ∧ W.cell? (a'.add (i * 7 + 2)) = some (.int .i64 t.d) ∧ W.cell? (a'.add (i * 7 + 3)) = some (.int .i64 t.h) ∧ W.cell? (a'.add (i * 7 + 4)) = some (.int .i64 t.mi) ∧ W.cell? (a'.add (i * 7 + 5)) = some (.int .i64 t.s) ∧ W.cell? (a'.add (i * 7 + 6)) = some (.int .i64 t.z) := fun i hi => by
      obtain ⟨cs', h1, h2⟩ := hx i hi
      obtain ⟨_, hlen, hcell⟩ := World.cells?_some h1
      obtain ⟨t, rfl⟩ := open_list hlen h2
      refine ⟨t, ?_, ?_, ?_, ?_, ?_, ?_, ?_⟩
      · have := hcell 0 (by simp [dtL]); rw [Deep.add_add] at this; simpa [dtL] using this
      · have := hcell 1 (by simp [dtL]); rw [Deep.add_add] at this; simpa [dtL] using this
      · have := hcell 2 (by simp [dtL]); rw [Deep.add_add] at this; simpa [dtL] using this
      · have := hcell 3 (by simp [dtL]); rw [Deep.add_add] at this; simpa [dtL] using this
      · have := hcell 4 (by simp [dtL]); rw [Deep.add_add] at this; simpa [dtL] using this
      · have := hcell 5 (by simp [dtL]); rw [Deep.add_add] at this; simpa [dtL] using this
      · have := hcell 6 (by simp [dtL]); rw [Deep.add_add] at this; simpa [dtL] using this
    have hinh : Inhabited Dt := ⟨Dt.zero⟩
    obtain ⟨f, hf⟩ := Deep.choose_lt hact
    refine ⟨(List.range len).map f, by simp, by omega, ?_⟩
    by_cases h0 : len = 0
    · exact .inl h0
    · right
      obtain ⟨ab, ao, sp⟩ := a'
      have hsp : sp = none := by
        have := (hf 0 (by omega)).1
        simp only [Nat.zero_mul, Addr.add, if_true, World.cell?] at this
        cases sp with
        | none => rfl
        | some s => split at this <;> simp at this
      subst hsp
      refine ⟨ab, ao, rfl, fun j hj => ?_⟩
      simp only [List.length_map, List.length_range] at hj
      obtain ⟨k0, k1, k2, k3, k4, k5, k6⟩ := hf j (by omega)
      rw [Addr.add_mid] at k0 k1 k2 k3 k4 k5 k6
      simp only [List.getElem_map, List.getElem_range]
      exact ⟨k0, by rw [← Nat.add_assoc] at k1; exact k1, by rw [← Nat.add_assoc] at k2; exact k2, by rw [← Nat.add_assoc] at k3; exact k3, by rw [← Nat.add_assoc] at k4; exact k4, by rw [← Nat.add_assoc] at k5; exact k5, by rw [← Nat.add_assoc] at k6; exact k6⟩
end
end Go.Proofs.YtnjdgbbdjkhpoaaDoor
