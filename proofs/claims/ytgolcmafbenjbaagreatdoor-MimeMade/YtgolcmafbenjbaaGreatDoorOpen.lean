/- What this text holds: how lists of texts, that come in lie in memory. -/
import Derived.Test.YtgolcmafbenjbaaGreatDoorFrame
import Derived.Deep.SlicePairs
import Derived.SliceStrings
import Derived.ProofKit
import Derived.OpenShut
import Derived.Below
namespace Go.Proofs.YtgolcmafbenjbaaGreatDoor
open Go.ChangeShapes Go.WideShapes Go.ChangeAt Go.RowKit
set_option linter.unusedVariables false
set_option linter.unusedSimpArgs false

theorem laidOut : laidOutB Tryz.prog = true := by kernel_rfl
theorem cells9 : Tryz.prog.cellsOf 9 = 1 := by kernel_rfl
/-- Texts lie in a slice. -/
structure TextsOk (W : World) (a : Option Addr) (len cap : Nat) (l : List Bs) : Prop where
  rl : RL W (.slice a len cap) 1 (l.map sR)
  len_ : l.length = len
  small : len ≤ maxLen
  each : ∀ x ∈ l, x.length ≤ maxLen
theorem spot_none {W : World} {kb ko : Nat} {sp : Option Nat} {v : Value} (h : W.cell? ((⟨kb, ko, sp⟩ : Addr).add 0) = some v) : sp = none := by
  simp only [Addr.add, if_true, World.cell?] at h
  cases sp with
  | none => rfl
  | some s => split at h <;> simp at h
theorem open_texts {H : Type} {enc : TypeId × Value → H} {W : World} {held : Bool} {fuel : Nat} {a : Option Addr} {len cap : Nat} {x : DataW H × List MemPlace} (h : DataW.trod enc Tryz.prog W 0 (fun _ => true) held fuel 30 [.slice a len cap] = some x) :
    ∃ l : List Bs, TextsOk W a len cap l := by
  rcases Go.ChangeShapes.open_strings Tryz.underlying30 Tryz.underlying9 cells9 h with ⟨hcs, _⟩ | ⟨a', len', cap', ss, hcs, _, hl, hm, hz, _, hc, hw⟩
  · simp only [List.cons.injEq, Value.slice.injEq, and_true] at hcs
    obtain ⟨rfl, rfl, rfl⟩ := hcs
    exact ⟨[], ⟨fun r hr => by simp at hr, none, 0, rfl, Nat.le_refl _, .inl rfl⟩, rfl, by unfold maxLen; omega, fun s hs => nomatch hs⟩
  · simp only [List.cons.injEq, Value.slice.injEq, and_true] at hcs
    obtain ⟨rfl, rfl, rfl⟩ := hcs
    simp only [if_true] at hz
    have hlen : ((ss.take len).map (·.data.toList)).length = len := by rw [List.length_map, List.length_take]; omega
    refine ⟨(ss.take len).map (·.data.toList), ⟨?_, some a', cap, by rw [List.length_map, hlen], by rw [List.length_map, hlen]; exact hl, ?_⟩, hlen, by omega, ?_⟩
    · intro r hr
      obtain ⟨e, _, rfl⟩ := List.mem_map.1 hr
      rfl
    · by_cases h0 : len = 0
      · left; exact List.eq_nil_of_length_eq_zero (by rw [List.length_map, hlen]; exact h0)
      · right
        obtain ⟨kb, ko, sp⟩ := a'
        obtain rfl := spot_none (hc 0 (by omega))
        refine ⟨kb, ko, rfl, fun j i r y hj hi => ?_, ?_⟩
        · rw [List.getElem?_map, List.getElem?_map] at hj
          obtain ⟨q, hq, rfl⟩ := Option.map_eq_some_iff.1 hj
          obtain ⟨s, hs, rfl⟩ := Option.map_eq_some_iff.1 hq
          rw [List.getElem?_take] at hs
          split at hs
          · have := hc j (by omega)
            rw [Addr.add_mid, List.getD_eq_getElem?_getD, hs] at this
            match i, hi with
            | 0, hi =>
              simp [sR] at hi
              subst hi
              rw [Nat.mul_one, Nat.add_zero, this, str_of]
              rfl
            | (i + 1), hi => simp [sR] at hi
          · simp at hs
        · have := hc 0 (by omega)
          rw [Addr.add_mid] at this
          exact World.block_lt_of_cell? W _ this
    · intro y hy
      obtain ⟨s, hs, rfl⟩ := List.mem_map.1 hy
      have := hw s (List.mem_of_mem_take hs)
      rw [← Go.Lib.size_eq]
      exact this

def tot : List Bs → Nat
  | [] => 0
  | a :: l => min a.length 2000 + tot l
theorem tot_append (l m : List Bs) : tot (l ++ m) = tot l + tot m := by
  induction l with
  | nil => simp [tot]
  | cons a l ih => rw [List.cons_append, tot, tot, ih]; omega
theorem tot_next (l : List Bs) (k : Nat) (hk : k < l.length) : tot (l.take (k + 1)) = tot (l.take k) + min l[k].length 2000 := by
  rw [List.take_succ_eq_append_getElem hk, tot_append]; rfl
theorem tot_le (l : List Bs) : tot l ≤ 2000 * l.length := by
  induction l with
  | nil => simp [tot]
  | cons a l ih => rw [tot, List.length_cons]; omega
theorem tot_each (l : List Bs) (h : tot l ≤ 1500) : ∀ x ∈ l, x.length ≤ 1500 := by
  induction l with
  | nil => simp
  | cons a l ih =>
    rw [tot] at h
    intro x hx
    rcases List.mem_cons.1 hx with rfl | hx
    · omega
    · exact ih (by omega) x hx
end Go.Proofs.YtgolcmafbenjbaaGreatDoor
