/- What this text holds: rows of one's own that are cut and filled: copy, clear, append in place. -/
import Derived.Test.YtkipigbfbhecjaaN34
import Derived.Shelf.Spec.SlicesInsert
import Derived.Lib.AppendZerosOnto
namespace Go.Proofs.Ytkipigbfbhecjaa
open Go.RowKit
set_option linter.unusedVariables false
set_option linter.unusedSimpArgs false

/-- A block's cells. -/
def Row (w : World) (g e : Nat) (L : List Value) : Prop := w.heap[g]? = some (.cells L.toArray e (0, 0))
/-- Cells that are laid into others. -/
def splice (L : List Value) (o : Nat) (cs : List Value) : List Value := L.take o ++ cs ++ L.drop (o + cs.length)
theorem splice_length {L cs : List Value} {o : Nat} (h : o + cs.length ≤ L.length) : (splice L o cs).length = L.length := by
  unfold splice
  simp only [List.length_append, List.length_take, List.length_drop]
  omega
theorem splice_head {L cs : List Value} {o : Nat} (h : o + cs.length ≤ L.length) : (splice L o cs).take (o + cs.length) = L.take o ++ cs := by
  unfold splice
  rw [List.take_append_of_le_length (by simp only [List.length_append, List.length_take]; omega)]
  exact List.take_of_length_le (by simp only [List.length_append, List.length_take]; omega)
theorem splice_take {L cs : List Value} {o a : Nat} (ha : a ≤ o) (h : o + cs.length ≤ L.length) : (splice L o cs).take a = L.take a := by
  have e := congrArg (List.take a) (splice_head h)
  rw [List.take_take, show min a (o + cs.length) = a by omega, List.take_append_of_le_length (by simp only [List.length_take]; omega), List.take_take, show min a o = a by omega] at e
  exact e
theorem splice_tail {L cs : List Value} {o : Nat} (h : o + cs.length ≤ L.length) : (splice L o cs).drop (o + cs.length) = L.drop (o + cs.length) := by
  unfold splice
  have hl : (L.take o ++ cs).length = o + cs.length := by simp only [List.length_append, List.length_take]; omega
  have := List.drop_left (l₁ := L.take o ++ cs) (l₂ := L.drop (o + cs.length))
  rw [hl] at this
  exact this
theorem splice_mid {L cs : List Value} {o : Nat} (h : o + cs.length ≤ L.length) : (splice L o cs).drop o = cs ++ L.drop (o + cs.length) := by
  unfold splice
  rw [List.append_assoc]
  have hl : (L.take o).length = o := by simp only [List.length_take]; omega
  have := List.drop_left (l₁ := L.take o) (l₂ := cs ++ L.drop (o + cs.length))
  rw [hl] at this
  exact this
/-- In place: what stood from a place on goes up, and something comes there. -/
theorem place_list {L A B xs : List Value} {a k : Nat} (hA : A.length = a) (hx : xs.length = k) (hL : L.take (a + B.length) = A ++ B) (hl : a + k + B.length ≤ L.length) :
    (splice (splice L (a + k) B) a xs).take (a + k + B.length) = A ++ xs ++ B := by
  have h1 : a + k + B.length ≤ L.length := hl
  have l1 := splice_length h1
  have h2 : a + xs.length ≤ (splice L (a + k) B).length := by rw [l1]; omega
  have eA : L.take a = A := by
    have := congrArg (List.take a) hL
    rw [List.take_take, show min a (a + B.length) = a by omega, List.take_append_of_le_length (by omega), List.take_of_length_le (l := A) (by omega)] at this
    exact this
  have e : splice (splice L (a + k) B) a xs = A ++ xs ++ (B ++ L.drop (a + k + B.length)) := by
    show (splice L (a + k) B).take a ++ xs ++ (splice L (a + k) B).drop (a + xs.length) = _
    rw [splice_take (by omega) h1, eA, hx, splice_mid h1]
  rw [e, ← List.append_assoc, List.take_append_of_le_length (by simp only [List.length_append]; omega)]
  exact List.take_of_length_le (by simp only [List.length_append]; omega)
/-- In a new row. -/
theorem fresh_list {L A B xs : List Value} {a k : Nat} (hA : A.length = a) (hx : xs.length = k) (hL : L.take a = A) (hl : a + k + B.length ≤ L.length) :
    (splice (splice L a xs) (a + k) B).take (a + k + B.length) = A ++ xs ++ B := by
  have h1 : a + xs.length ≤ L.length := by omega
  have l1 := splice_length h1
  have h2 : a + k + B.length ≤ (splice L a xs).length := by rw [l1]; omega
  rw [splice_head h2]
  have := splice_head h1
  rw [hx] at this
  rw [this, hL]

section
variable {t e size : Nat} {w : World} {g : Nat} {L : List Value}
theorem Row.cell (h : Row w g e L) {j : Nat} {v : Value} (hv : L[j]? = some v) : w.cell? ⟨g, j, none⟩ = some v := by
  simp only [World.cell?, show w.heap[g]? = some (.cells L.toArray e (0, 0)) from h]
  simpa using hv
theorem Row.frozen (h : Row w g e L) (j : Nat) : w.frozen? ⟨g, j, none⟩ = false := by
  simp [World.frozen?, show w.heap[g]? = some (.cells L.toArray e (0, 0)) from h]
theorem Row.lt (h : Row w g e L) : g < w.heap.size := (Array.getElem?_eq_some_iff.1 h).1
theorem Row.set (h : Row w g e L) (M : List Value) : Row (w.setRow g M.toArray) g e M := setRow_heap w g _ _ e _ h
theorem Row.later {w' : World} (h : Row w g e L) (hb : Below w.heap.size w w') : Row w' g e L := (hb.block g h.lt).trans h
theorem below_row {B : Nat} (hB : B ≤ g) (M : Array Value) : Below B w (w.setRow g M) := ⟨rfl, rfl, rfl, by simp, fun k hk => setRow_other w g k _ (by omega)⟩
/-- copy into a row. -/
theorem run_copy_to (ht : Try.prog.underlying t = some (.slice e)) (hs : (Try.prog.info? e).map (·.size) = some size) (h : Row w g e L) {o dLen dCap sLen sCap k : Nat} {a : Addr} {cs : List Value} (hk : Nat.min sLen dLen = k)
    (hl : cs.length = k * size) (hsrc : ∀ j v, cs[j]? = some v → w.cell? (a.add j) = some v) (hfit : o + cs.length ≤ L.length) (h1 : ∀ v ∈ cs, v.oneCell' = true) (ty : Nat) :
    (Builtin.copy_ #[t, t] ty #[.slice (some ⟨g, o, none⟩) dLen dCap, .slice (some a) sLen sCap]).run Try.prog w = .ok (goInt k) (w.setRow g (splice L o cs).toArray) := by
  have hf := run_firstCells_some (P := Try.prog) w size k a sLen sCap cs hl hsrc
  have hst := run_storeCells_at Try.prog g o e cs 0 L.toArray w h (by simpa using hfit) h1
  simp only [Nat.add_zero] at hst
  cases hq : Try.prog.info? e with
  | none => simp [hq] at hs
  | some i =>
    have hi : i.size = size := by simpa [hq] using hs
    simp [Builtin.copy_, run_underlying ht, Builtin.lenOf, sizeOf, typeInfo, hq, hi, hk, hf, hst, splice]
/-- clear of a part of a row. -/
theorem run_clear_to {z : Value} (ht : Try.prog.underlying t = some (.slice e)) (hz : (Try.prog.info? e).map (·.zero) = some (some z)) (h : Row w g e L) {o n c : Nat} (hn : 0 < n) (hfit : o + n * z.cells.size ≤ L.length) (h1 : ∀ v ∈ (Builtin.zeroCells z.cells n).toList, v.oneCell' = true) (ty : Nat) :
    (Builtin.clear_ #[t] ty #[.slice (some ⟨g, o, none⟩) n c]).run Try.prog w = .ok (.tuple #[]) (w.setRow g (splice L o (Builtin.zeroCells z.cells n).toList).toArray) := by
  have hlz : (Builtin.zeroCells z.cells n).toList.length = n * z.cells.size := by rw [Array.length_toList, zeroCells_size]
  have hst := run_storeCells_at Try.prog g o e (Builtin.zeroCells z.cells n).toList 0 L.toArray w h (by simp only [Nat.add_zero, List.size_toArray]; rw [hlz]; exact hfit) h1
  simp only [Nat.add_zero] at hst
  cases hq : Try.prog.info? e with
  | none => simp [hq] at hz
  | some i =>
    have hi : i.zero = some z := by simpa [hq] using hz
    obtain ⟨m, rfl⟩ : ∃ m, n = m + 1 := ⟨n - 1, by omega⟩
    simp [Builtin.clear_, run_underlying ht, zeroValue, typeInfo, hq, hi, hst, splice]
/-- append in place. -/
theorem run_app_to (ht : Try.prog.underlying t = some (.slice e)) (hs : (Try.prog.info? e).map (·.size) = some size) (h : Row w g e L) {n cap m c : Nat} {a : Addr} {cs : List Value} (hl : cs.length = m * size)
    (hsrc : ∀ j v, cs[j]? = some v → w.cell? (a.add j) = some v) (h1 : ∀ v ∈ cs, v.oneCell' = true) (hroom : n + m ≤ cap) (hfit : n * size + cs.length ≤ L.length) (ty : Nat) :
    (Builtin.append_ #[t, t] ty #[.slice (some ⟨g, 0, none⟩) n cap, .slice (some a) m c]).run Try.prog w = .ok (.slice (some ⟨g, 0, none⟩) (n + m) cap) (w.setRow g (splice L (n * size) cs).toArray) := by
  cases hq : Try.prog.info? e with
  | none => simp [hq] at hs
  | some i =>
    have hi : i.size = size := by simpa [hq] using hs
    subst hi
    have := run_append_room (P := Try.prog) w t ty e i ht hq g n cap L.toArray h a m c cs hl hsrc h1 hroom (by simpa using hfit)
    simpa [splice] using this
end
/-- A row of one's own: nothing, or a block. -/
theorem own_row {w : World} {B e size n : Nat} {v : Value} {cs : List Value} (h : w.ownsRow B e size v n cs) : (v = .slice none 0 0 ∧ n = 0 ∧ cs = []) ∨ ∃ g cap L, v = .slice (some ⟨g, 0, none⟩) n cap ∧ B ≤ g ∧ Row w g e L ∧ n ≤ cap ∧ cap ≤ maxLen ∧ L.length = cap * size ∧ L.take (n * size) = cs := by
  rcases h.2 with ⟨h1, h2⟩ | ⟨g, cap, cur, h1, h2, h3, h4, h5, h6, h7⟩
  · have hl := h.1
    rw [h2, Nat.zero_mul] at hl
    exact .inl ⟨h1, h2, List.eq_nil_of_length_eq_zero hl⟩
  · exact .inr ⟨g, cap, cur.toList, h1, h2, by unfold Row; rw [Array.toArray_toList]; exact h3, h4, h5, by rw [Array.length_toList]; exact h6, h7⟩
theorem row_own {w : World} {B e size n g cap : Nat} {L cs : List Value} (hB : B ≤ g) (h : Row w g e L) (h1 : n ≤ cap) (h2 : cap ≤ maxLen) (h3 : L.length = cap * size) (h4 : L.take (n * size) = cs) : w.ownsRow B e size (.slice (some ⟨g, 0, none⟩) n cap) n cs := by
  refine ⟨?_, .inr ⟨g, cap, L.toArray, rfl, hB, h, h1, h2, by simpa using h3, by simpa using h4⟩⟩
  rw [← h4, List.length_take, h3]
  exact Nat.min_eq_left (Nat.mul_le_mul_right _ h1)
theorem overlaps_no {f t e size : Nat} (hf : ∃ fn, Try.prog.funcs[f]? = some fn ∧ (fn.name == "runtime.NumGoroutine") = false ∧ fn.body.isNone = true ∧ Extern.findNext fn = none ∧ Extern.find fn = some (Extern.SlicesOverlaps.overlaps #[t, t] #[4])) (ht : Try.prog.underlying t = some (.slice e)) (hz : ∀ w, (sizeOf e).run Try.prog w = .ok size w)
    {w : World} {xb g eb : Nat} {X L : List Value} (hx : Row w xb e X) (hr : Row w g eb L) (hne : xb ≠ g) (hL : L ≠ []) (o m c n cap : Nat) :
    (callFunc f #[.slice (some ⟨xb, 0, none⟩) m c, .slice (some ⟨g, o, none⟩) n cap]).run Try.prog w = .ok (.value (.bool false)) w := by
  obtain ⟨fn, h1, h2, h3, h4, h5⟩ := hf
  rw [run_callFunc_extern h1 h2 h3 h4 h5, Lib.run_overlaps_apart w t 4 e ht size hz ⟨xb, 0, none⟩ ⟨g, o, none⟩ m c n cap hne e eb X.length L.length
    (by simp [World.shape?, show w.heap[xb]? = some (.cells X.toArray e (0, 0)) from hx]) (by simp [World.shape?, show w.heap[g]? = some (.cells L.toArray eb (0, 0)) from hr])
    (by intro h; exact hL (List.eq_nil_of_length_eq_zero h)) (hx.frozen _) (hx.frozen _)]
  rfl
end Go.Proofs.Ytkipigbfbhecjaa
