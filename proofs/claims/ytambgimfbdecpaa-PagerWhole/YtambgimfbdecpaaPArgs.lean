/- What this text holds: bytes that are handed in. -/
import Derived.Test.YtambgimfbdecpaaPPure
import Derived.ChangeSlices
import Derived.OpenShut
namespace Go.Proofs.Ytambgimfbdecpaa
open Go.RowKit
set_option linter.unusedVariables false

theorem cells5 : Try.prog.cellsOf 5 = 1 := by kernel_rfl
/-- Bytes that are handed in. -/
structure BArg (W : World) (a : Option Addr) (len cap : Nat) (l : List Int) : Prop where
  at_ : BAt W a l
  len_ : l.length = len
  byt : Byt l
  le : len ≤ cap
  max : cap ≤ maxLen
theorem BArg.later {W W' : World} {a : Option Addr} {len cap : Nat} {l : List Int} (h : BArg W a len cap l) (hb : Below W.heap.size W W') : BArg W' a len cap l :=
  { h with at_ := h.at_.below hb }
section
variable {H : Type} {enc : TypeId × Value → H} {W : World} {held : Bool}
theorem open_bytes {fuel : Nat} {a : Option Addr} {len cap : Nat} {x : DataW H × List MemPlace} (h : DataW.trod enc Try.prog W 0 (fun _ => true) held fuel 46 [.slice a len cap] = some x) : ∃ l, BArg W a len cap l := by
  rcases Go.ChangeShapes.open_ints Try.underlying46 Try.underlying5 cells5 h with ⟨hcs, _⟩ | ⟨a', len', cap', zs, hcs, _, hl, hm, hz, _, hc, hw⟩
  · simp only [List.cons.injEq, Value.slice.injEq, and_true] at hcs
    obtain ⟨rfl, rfl, rfl⟩ := hcs
    exact ⟨[], (fun j x hx => by simp at hx), rfl, (fun x hx => nomatch hx), Nat.le_refl _, Nat.zero_le _⟩
  · simp only [List.cons.injEq, Value.slice.injEq, and_true] at hcs
    obtain ⟨rfl, rfl, rfl⟩ := hcs
    simp only [if_true] at hz
    refine ⟨zs.take len, ?_, by rw [List.length_take]; omega, ?_, hl, hm⟩
    · intro j x hx
      rw [List.getElem?_take] at hx
      split at hx
      · have hj : j < zs.length := by omega
        refine ⟨_, rfl, ?_⟩
        rw [hc j hj, List.getD_eq_getElem?_getD, hx]
        rfl
      · cases hx
    · intro x hx
      have := bounds_u8 (hw x (List.mem_of_mem_take hx))
      omega
theorem open_str {fuel : Nat} {s : ByteArray} {x : DataW H × List MemPlace} (h : DataW.trod enc Try.prog W 0 (fun _ => true) held fuel 9 [.string s] = some x) : s.size ≤ maxLen := by
  obtain ⟨s', e, _, hs⟩ := DataW.trod_string Try.underlying9 h
  simp only [List.cons.injEq, Value.string.injEq, and_true] at e
  rw [e]; exact hs
end
end Go.Proofs.Ytambgimfbdecpaa
