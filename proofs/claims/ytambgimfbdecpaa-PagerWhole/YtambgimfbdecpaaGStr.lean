/- What this text holds: strings, and numbers, that are handed in; a list of pages in memory. -/
import Derived.Test.YtambgimfbdecpaaGRoom
import Derived.SliceStrings
import Derived.Maps.AppendAt
namespace Go.Proofs.Ytambgimfbdecpaa
open Go.RowKit
set_option linter.unusedVariables false

theorem cell_later {w w' : World} {p : Addr} {v : Value} (hb : Below w.heap.size w w') (h : w.cell? p = some v) : w'.cell? p = some v := (hb.cell (World.block_lt_of_cell? w _ h)).trans h

/-- A slice of strings that was handed in. -/
def StrsOk (w : World) (a : Option Addr) (len : Nat) (ss : List ByteArray) : Prop :=
  ss.length = len ∧ len ≤ maxLen ∧ (∀ s ∈ ss, s.size ≤ maxLen) ∧ (len = 0 ∨ ∃ ab ao, a = some ⟨ab, ao, none⟩ ∧ ∀ j (hj : j < ss.length), w.cell? ⟨ab, ao + j, none⟩ = some (.string ss[j]))
theorem StrsOk.later {w w' : World} {a : Option Addr} {len : Nat} {ss : List ByteArray} (h : StrsOk w a len ss) (hb : Below w.heap.size w w') : StrsOk w' a len ss := by
  refine ⟨h.1, h.2.1, h.2.2.1, ?_⟩
  rcases h.2.2.2 with h0 | ⟨kb, ko, e, hk⟩
  · exact .inl h0
  · exact .inr ⟨kb, ko, e, fun j hj => cell_later hb (hk j hj)⟩
theorem StrsOk.get {w : World} {a : Option Addr} {len : Nat} {ss : List ByteArray} (h : StrsOk w a len ss) (j : Nat) (hj : j < ss.length) : ∃ ab ao, a = some ⟨ab, ao, none⟩ ∧ w.cell? ⟨ab, ao + j, none⟩ = some (.string ss[j]) ∧ (ss[j]).size ≤ maxLen := by
  rcases h.2.2.2 with h0 | ⟨kb, ko, e, hk⟩
  · have := h.1; omega
  · exact ⟨kb, ko, e, hk j hj, h.2.2.1 _ (List.getElem_mem hj)⟩
/-- Numbers that were. -/
def IntsOk (w : World) (a : Option Addr) (len : Nat) (zs : List Int) : Prop :=
  zs.length = len ∧ len ≤ maxLen ∧ (len = 0 ∨ ∃ ab ao, a = some ⟨ab, ao, none⟩ ∧ ∀ j (hj : j < zs.length), w.cell? ⟨ab, ao + j, none⟩ = some (.int .i64 zs[j]))
theorem IntsOk.later {w w' : World} {a : Option Addr} {len : Nat} {zs : List Int} (h : IntsOk w a len zs) (hb : Below w.heap.size w w') : IntsOk w' a len zs := by
  refine ⟨h.1, h.2.1, ?_⟩
  rcases h.2.2 with h0 | ⟨kb, ko, e, hk⟩
  · exact .inl h0
  · exact .inr ⟨kb, ko, e, fun j hj => cell_later hb (hk j hj)⟩
theorem IntsOk.get {w : World} {a : Option Addr} {len : Nat} {zs : List Int} (h : IntsOk w a len zs) (j : Nat) (hj : j < zs.length) : ∃ ab ao, a = some ⟨ab, ao, none⟩ ∧ w.cell? ⟨ab, ao + j, none⟩ = some (.int .i64 zs[j]) := by
  rcases h.2.2 with h0 | ⟨kb, ko, e, hk⟩
  · have := h.1; omega
  · exact ⟨kb, ko, e, hk j hj⟩

theorem cells9 : Try.prog.cellsOf 9 = 1 := by kernel_rfl
theorem cells3 : Try.prog.cellsOf 3 = 1 := by kernel_rfl
section
variable {H : Type} {enc : TypeId × Value → H} {W : World} {held : Bool}
theorem spot_none {W : World} {kb ko : Nat} {sp : Option Nat} {v : Value} (h : W.cell? ((⟨kb, ko, sp⟩ : Addr).add 0) = some v) : sp = none := by
  simp only [Addr.add, if_true, World.cell?] at h
  cases sp with
  | none => rfl
  | some s => split at h <;> simp at h
theorem open_strsOk {fuel : Nat} {a : Option Addr} {len cap : Nat} {x : DataW H × List MemPlace} (h : DataW.trod enc Try.prog W 0 (fun _ => true) held fuel 56 [.slice a len cap] = some x) : ∃ ss, StrsOk W a len ss := by
  rcases Go.ChangeShapes.open_strings Try.underlying56 Try.underlying9 cells9 h with ⟨hcs, _⟩ | ⟨a', len', cap', ss, hcs, _, hl, hm, hz, _, hc, hw⟩
  · simp only [List.cons.injEq, Value.slice.injEq, and_true] at hcs
    obtain ⟨rfl, rfl, rfl⟩ := hcs
    exact ⟨[], rfl, by unfold maxLen; omega, (fun s hs => nomatch hs), .inl rfl⟩
  · simp only [List.cons.injEq, Value.slice.injEq, and_true] at hcs
    obtain ⟨rfl, rfl, rfl⟩ := hcs
    simp only [if_true] at hz
    refine ⟨ss.take len, by rw [List.length_take]; omega, by omega, fun s hs => hw s (List.mem_of_mem_take hs), ?_⟩
    by_cases h0 : len = 0
    · exact .inl h0
    · right
      obtain ⟨kb, ko, sp⟩ := a'
      obtain rfl := spot_none (hc 0 (by omega))
      refine ⟨kb, ko, rfl, fun j hj => ?_⟩
      rw [List.length_take] at hj
      have := hc j (by omega)
      rw [Addr.add_mid, List.getD_eq_getElem?_getD, List.getElem?_eq_getElem (by omega)] at this
      rw [List.getElem_take]
      exact this
theorem open_intsOk {fuel : Nat} {a : Option Addr} {len cap : Nat} {x : DataW H × List MemPlace} (h : DataW.trod enc Try.prog W 0 (fun _ => true) held fuel 51 [.slice a len cap] = some x) : ∃ zs, IntsOk W a len zs := by
  rcases Go.ChangeShapes.open_ints Try.underlying51 Try.underlying3 cells3 h with ⟨hcs, _⟩ | ⟨a', len', cap', ss, hcs, _, hl, hm, hz, _, hc, hw⟩
  · simp only [List.cons.injEq, Value.slice.injEq, and_true] at hcs
    obtain ⟨rfl, rfl, rfl⟩ := hcs
    exact ⟨[], rfl, by unfold maxLen; omega, .inl rfl⟩
  · simp only [List.cons.injEq, Value.slice.injEq, and_true] at hcs
    obtain ⟨rfl, rfl, rfl⟩ := hcs
    simp only [if_true] at hz
    refine ⟨ss.take len, by rw [List.length_take]; omega, by omega, ?_⟩
    by_cases h0 : len = 0
    · exact .inl h0
    · right
      obtain ⟨kb, ko, sp⟩ := a'
      obtain rfl := spot_none (hc 0 (by omega))
      refine ⟨kb, ko, rfl, fun j hj => ?_⟩
      rw [List.length_take] at hj
      have := hc j (by omega)
      rw [Addr.add_mid, List.getD_eq_getElem?_getD, List.getElem?_eq_getElem (by omega)] at this
      rw [List.getElem_take]
      exact this
end

/-- Cells of pages: each a number, and a content. -/
def pgc (l : List (Int × ByteArray)) : List Value := l.flatMap fun x => [.int .i64 x.1, .string x.2]
theorem pgc_length (l : List (Int × ByteArray)) : (pgc l).length = l.length * 2 := by
  induction l with
  | nil => rfl
  | cons x l ih => simp only [pgc, List.flatMap_cons, List.length_append, List.length_cons, List.length_nil] at ih ⊢; omega
theorem pgc_cons (x : Int × ByteArray) (l : List (Int × ByteArray)) : pgc (x :: l) = .int .i64 x.1 :: .string x.2 :: pgc l := by simp [pgc]
theorem pgc_at (l : List (Int × ByteArray)) : ∀ (i : Nat) (hi : i < l.length), (pgc l)[i * 2]? = some (.int .i64 (l[i]).1) ∧ (pgc l)[i * 2 + 1]? = some (.string (l[i]).2) := by
  induction l with
  | nil => intro i hi; simp at hi
  | cons x l ih =>
    intro i hi
    rw [pgc_cons]
    cases i with
    | zero => exact ⟨rfl, rfl⟩
    | succ i =>
      obtain ⟨h1, h2⟩ := ih i (by simpa using hi)
      rw [show (i + 1) * 2 = i * 2 + 1 + 1 by omega]
      simp only [List.getElem?_cons_succ, List.getElem_cons_succ]
      exact ⟨h1, h2⟩
theorem pgc_snoc (l : List (Int × ByteArray)) (x : Int × ByteArray) : pgc (l ++ [x]) = pgc l ++ [.int .i64 x.1, .string x.2] := by simp [pgc]
theorem pgc_oneCell (l : List (Int × ByteArray)) : ∀ v ∈ pgc l, v.oneCell' = true := by
  intro v hv
  simp only [pgc, List.mem_flatMap, List.mem_cons, List.not_mem_nil, or_false] at hv
  obtain ⟨x, _, h | h⟩ := hv <;> subst h <;> rfl
/-- A slice of pages lies in memory. -/
def PgsAt (w : World) (B : Nat) (v : Value) (ps : List (Int × ByteArray)) : Prop := w.ownsRow B 65 2 v ps.length (pgc ps)
theorem PgsAt.keep {w w' : World} {B : Nat} {v : Value} {ps : List (Int × ByteArray)} (h : PgsAt w B v ps) {S : List Nat} (k : Kept S w w') (hS : ∀ g, v.ownBlock = some g → g ∉ S) : PgsAt w' B v ps :=
  ownsRow_block h fun i hi => k.block i (h.lt i hi).2 (hS i hi)
theorem PgsAt.shape {w : World} {B : Nat} {v : Value} {ps : List (Int × ByteArray)} (h : PgsAt w B v ps) : ∃ a c, v = .slice a ps.length c := by
  rcases h.2 with ⟨h1, h2⟩ | ⟨g, cap, cur, h1, _⟩
  · exact ⟨none, 0, by rw [h1, h2]⟩
  · exact ⟨_, _, h1⟩
theorem PgsAt.get {w : World} {B : Nat} {v : Value} {ps : List (Int × ByteArray)} (h : PgsAt w B v ps) (i : Nat) (hi : i < ps.length) : ∃ g c, v = .slice (some ⟨g, 0, none⟩) ps.length c ∧ v.ownBlock = some g ∧ w.cell? ⟨g, i * 2, none⟩ = some (.int .i64 (ps[i]).1) ∧ w.cell? ⟨g, i * 2 + 1, none⟩ = some (.string (ps[i]).2) := by
  obtain ⟨g, c, e, _⟩ := ownsRow_some h (by omega)
  subst e
  obtain ⟨h1, h2⟩ := pgc_at ps i hi
  refine ⟨g, c, rfl, rfl, ?_, ?_⟩
  · rw [World.ownsRow.cellAt h _ (by omega), h1]
  · rw [World.ownsRow.cellAt h _ (by omega), h2]
theorem Try.info65 : (Try.prog.info? 65).map (fun i => (i.zero, i.size, i.bytes)) = some (some (.agg #[.int .i64 0, .string ⟨#[]⟩]), 2, 24) := by kernel_rfl
/-- The first bytes of a string, at most as many as a page has room for. -/
def cutS (s : ByteArray) : ByteArray := s.extract 0 (min s.size 492)
theorem cutS_size (s : ByteArray) : (cutS s).size ≤ 492 := by unfold cutS; rw [ByteArray.size_extract]; omega
end Go.Proofs.Ytambgimfbdecpaa
