/- What this text holds: whether two lists of spans, and of numbers, are the same. -/
import Derived.Test.YtiiegjdclpkeeaaDoorM1
namespace Go.Proofs.YtiiegjdclpkeeaaDoor
open Go.RowKit
set_option linter.unusedVariables false
set_option linter.unusedSimpArgs false

theorem take_ne {α : Type} {l m : List α} {k : Nat} {x y : α} (h1 : l[k]? = some x) (h2 : m[k]? = some y) (hne : x ≠ y) : l ≠ m := by
  rintro rfl
  rw [h1] at h2
  exact hne (Option.some.inj h2)
theorem all_eq {α : Type} {l m : List α} (hl : l.length = m.length) (h : ∀ t x, t < l.length → l[t]? = some x → m[t]? = some x) : l = m := by
  apply List.ext_getElem hl
  intro i h1 h2
  have := h i l[i] h1 (List.getElem?_eq_getElem h1)
  rw [List.getElem?_eq_getElem h2] at this
  exact (Option.some.inj this).symm
/-- Two lists of the same length in memory. -/
theorem gl_slice {α : Type} {E : En α} {w : World} {v : Value} {l : List α} (h : GL E w v l) : ∃ a c, v = .slice a l.length c ∧ (l ≠ [] → ∃ g o, a = some ⟨g, o, none⟩ ∧ GA E w g o l ∧ g < w.heap.size) ∧ l.length ≤ c := by
  obtain ⟨a, c, rfl, hc, h⟩ := h
  exact ⟨a, c, rfl, fun hn => by rcases h with h | h
                                 · exact absurd h hn
                                 · exact h, hc⟩
/-- The list is the same, and nothing but draws was done. -/
def SameIs (b : Bool) (w : World) (e : Ending) (w' : World) : Prop := e = .returned (.bool b) ∧ Below w.heap.size w w'
set_option maxRecDepth 100000 in
set_option maxHeartbeats 4000000 in
theorem same_no {w : World} {v u : Value} {l m : List Sp} (h : GL eSp w v l) (h' : GL eSp w u m) (hn : l.length ≠ m.length) : Calls Tryd.prog 8 #[v, u] w (SameIs false w) := by
  obtain ⟨a, c, rfl, _⟩ := h
  obtain ⟨a', c', rfl, _⟩ := h'
  have hb : ((l.length : Int) != m.length) = true := by simp; omega
  go_enter Tryd.func8, Tryd.ntmps8
  go_wp2_with fail
  go_ret
  exact ⟨rfl, Below.refl _ _⟩
theorem ints_no {w : World} {v u : Value} {l m : List Int} (h : GL eI w v l) (h' : GL eI w u m) (hn : l.length ≠ m.length) : Calls Tryd.prog 12 #[v, u] w (SameIs false w) := by
  obtain ⟨a, c, rfl, _⟩ := h
  obtain ⟨a', c', rfl, _⟩ := h'
  have hb : ((l.length : Int) != m.length) = true := by simp; omega
  go_enter Tryd.func12, Tryd.ntmps12
  go_wp2_with fail
  go_ret
  exact ⟨rfl, Below.refl _ _⟩
set_option maxRecDepth 100000 in
set_option maxHeartbeats 4000000 in
/-- A list and the same list. -/
theorem same_any {w : World} {v u : Value} {l : List Sp} (h : GL eSp w v l) (h' : GL eSp w u l) (hl : l.length ≤ 1000000) : Calls Tryd.prog 8 #[v, u] w (SameIs true w) := by
  obtain ⟨a, c, rfl, hg, hc⟩ := gl_slice h
  obtain ⟨a', c', rfl, hg', hc'⟩ := gl_slice h'
  have HG := hid hg
  have HG' := hid hg'
  have hb : ((l.length : Int) != l.length) = false := by simp
  clear hg hg' h h'
  go_enter Tryd.func8, Tryd.ntmps8
  go_wp2_with fail
  go_loopw [5] (fun i wr => ∃ k : Nat, k ≤ l.length ∧ i = .int .i64 k ∧ Below w.heap.size w wr) (fun i _ => l.length - (intOf i).toNat)
  case atStart => exact ⟨0, by omega, rfl, Below.refl _ _⟩
  case round =>
    obtain ⟨k, hk, rfl, hb1⟩ := hrel
    have HB := hid hb1
    clear hb1
    by_cases hlt : k < l.length
    · have hlt' : (k : Int) < l.length := by omega
      have h0 : (0 : Int) ≤ k := by omega
      have hne : l ≠ [] := by rintro rfl; simp at hlt
      obtain ⟨g, o, rfl, hga, _⟩ := HG.out hne
      obtain ⟨g', o', rfl, hga', _⟩ := HG'.out hne
      obtain ⟨hc0, hc1⟩ := (hga.later HB.out).sp k l[k] (List.getElem?_eq_getElem hlt)
      obtain ⟨hc0', hc1'⟩ := (hga'.later HB.out).sp k l[k] (List.getElem?_eq_getElem hlt)
      clear hga hga' hne HG HG'
      generalize l[k] = s at *
      obtain ⟨x, y⟩ := s
      simp only at hc0 hc1 hc0' hc1'
      have e1 : (x == x) = true := by simp
      have e2 : (y == y) = true := by simp
      go_wp2_with fail
      go_quiet (fail)
      go_wp2_with fail
      go_roundw
      case rel => exact ⟨k + 1, by omega, by go_num, HB.out.trans (drewN_below _ _ _)⟩
      case measure => simp [intOf]; omega
    · have hlt' : ¬ (k : Int) < l.length := by omega
      go_wp2_with fail
      go_ret
      exact ⟨rfl, HB.out⟩
set_option maxRecDepth 100000 in
set_option maxHeartbeats 4000000 in
theorem ints_any {w : World} {v u : Value} {l : List Int} (h : GL eI w v l) (h' : GL eI w u l) (hl : l.length ≤ 1000000) : Calls Tryd.prog 12 #[v, u] w (SameIs true w) := by
  obtain ⟨a, c, rfl, hg, hc⟩ := gl_slice h
  obtain ⟨a', c', rfl, hg', hc'⟩ := gl_slice h'
  have HG := hid hg
  have HG' := hid hg'
  have hb : ((l.length : Int) != l.length) = false := by simp
  clear hg hg' h h'
  go_enter Tryd.func12, Tryd.ntmps12
  go_wp2_with fail
  go_loopw [5] (fun i wr => ∃ k : Nat, k ≤ l.length ∧ i = .int .i64 k ∧ Below w.heap.size w wr) (fun i _ => l.length - (intOf i).toNat)
  case atStart => exact ⟨0, by omega, rfl, Below.refl _ _⟩
  case round =>
    obtain ⟨k, hk, rfl, hb1⟩ := hrel
    have HB := hid hb1
    clear hb1
    by_cases hlt : k < l.length
    · have hlt' : (k : Int) < l.length := by omega
      have h0 : (0 : Int) ≤ k := by omega
      have hne : l ≠ [] := by rintro rfl; simp at hlt
      obtain ⟨g, o, rfl, hga, _⟩ := HG.out hne
      obtain ⟨g', o', rfl, hga', _⟩ := HG'.out hne
      have hc0 := (hga.later HB.out).i k l[k] (List.getElem?_eq_getElem hlt)
      have hc0' := (hga'.later HB.out).i k l[k] (List.getElem?_eq_getElem hlt)
      clear hga hga' hne HG HG'
      generalize l[k] = x at *
      have e1 : (x != x) = false := by simp
      go_wp2_with fail
      go_quiet (fail)
      go_wp2_with fail
      go_roundw
      case rel => exact ⟨k + 1, by omega, by go_num, HB.out.trans (drewN_below _ _ _)⟩
      case measure => simp [intOf]; omega
    · have hlt' : ¬ (k : Int) < l.length := by omega
      go_wp2_with fail
      go_ret
      exact ⟨rfl, HB.out⟩
end Go.Proofs.YtiiegjdclpkeeaaDoor
