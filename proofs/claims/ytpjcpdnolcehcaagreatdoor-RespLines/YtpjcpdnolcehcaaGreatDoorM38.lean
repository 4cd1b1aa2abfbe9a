/- What this text holds: two lists of lines put together. -/
import Derived.Test.YtpjcpdnolcehcaaGreatDoorM37
import Derived.Test.YtpjcpdnolcehcaaGreatDoorM35
namespace Go.Proofs.YtpjcpdnolcehcaaGreatDoor
open Go.RowKit
set_option linter.unusedVariables false
set_option linter.unusedSimpArgs false

theorem go_app {α : Type} (E : En α) {w : World} {B : Nat} {v : Value} {l : List α} (h : GO E w B v l) (hBw : B ≤ w.heap.size) {u : Value} {m : List α} (hu : GL E w u m) (hl : l.length ≤ 10000000000) (hm : m.length ≤ 1000000000) :
    ∃ v' w', (Builtin.append_ #[E.t, E.t] E.t #[v, u]).run Tryz.prog w = .ok v' w' ∧ GO E w' B v' (l ++ m) ∧ Below B w w' := by
  by_cases hne : m = []
  · subst hne
    obtain ⟨i, hi, hz0, hz1, hz2⟩ := info_parts E.inf
    obtain ⟨a, c, rfl, hc, _⟩ := hu
    rcases a with _ | p
    · refine ⟨v, w, ?_, by rw [List.append_nil]; exact h, Below.refl _ _⟩
      rcases h.2 with ⟨rfl, h0⟩ | ⟨g, cap, cur, rfl, _, _, hnc, _⟩
      · simp [Builtin.append_, run_underlying E.ut, sizeOf, typeInfo, hi, Builtin.lenOf, Builtin.firstCells]
      · simp [Builtin.append_, run_underlying E.ut, sizeOf, typeInfo, hi, Builtin.lenOf, Builtin.firstCells, hnc, storeCells]
    · obtain ⟨v', w', hr, ho', hg, _⟩ := run_append_own (P := Tryz.prog) w B E.t E.t E.T i _ E.k E.by_ E.ut hi hz0 hz1 hz2 E.hz E.hk v l.length (E.cs l) h p 0 c [] (by simp) (fun j u hj => by simp at hj) (fun u hu => by simp at hu)
        (by unfold maxLen; omega) (by
          have : (l.length + 0) * E.by_ ≤ 10000000000 * 1000 := Nat.mul_le_mul (by omega) E.hby
          omega) hBw
      rw [List.append_nil] at ho' ⊢
      exact ⟨v', w', hr, ho', (Below.refl B w).grown hg hBw (fun k hk => (World.ownsRow.lt h k hk).1)⟩
  · obtain ⟨v', w', h1, h2, h3, _⟩ := go_more E h hBw hu hl hm hne
    exact ⟨v', w', h1, h2, h3⟩
theorem wpList_append_runG {ops : Array Oper} {rest : List Oper} {Q : Exit → Act → World → Prop} {a : Act} {x y : Operand} {u s : Value} {w w' : World} {v : Value} {d : Option Tmp} {t t2 ty : Nat} {pos : String} {af : Array Edge} {gd : Option (Nat × Bool)}
    (hw : Region.wanted (⟨d, .call { callee := .builtin .append, args := #[x, y], argTypes := #[t, t2] }, ty, pos, af, gd⟩ : Oper) (yielded ops a.tmps) = true) (hx : a.eval x = u) (hy : a.eval y = s)
    (hrun : (Builtin.append_ #[t, t2] ty #[u, s]).run Tryz.prog w = .ok v w') (h : wpList Tryz.prog ops Q rest (a.put d v) w') : wpList Tryz.prog ops Q (⟨d, .call { callee := .builtin .append, args := #[x, y], argTypes := #[t, t2] }, ty, pos, af, gd⟩ :: rest) a w := by
  refine wpList_step fun K hK => ?_
  rw [if_pos hw]
  unfold Oper.wp
  rw [exec_append hx hy hrun]
  exact hK _ _ h
theorem empty22 (w : World) : (Instr.buildSlice 22 0 #[]).run Tryz.prog w = .ok (.slice (some ⟨w.heap.size, 0, none⟩) 0 0) (w.alloc (.cells #[] 28)) := by
  obtain ⟨inf, hi, hz0, hz1, hz2⟩ := info_parts eL.inf
  have hi' : Tryz.prog.info? 28 = some inf := hi
  simp [Instr.buildSlice, run_underlying Tryz.underlying22, sizeOf, typeInfo, hi', newRow, Instr.fill]
  simp [Array.range]
theorem GO.blk_lt {α : Type} {E : En α} {w : World} {B : Nat} {v : Value} {l : List α} (h : GO E w B v l) : ∀ g, blk v = some g → g < w.heap.size := by
  intro g hg
  rcases h.2 with ⟨rfl, _⟩ | ⟨g', c, cur, rfl, _, hh, _⟩
  · cases hg
  · have e : g' = g := by simpa [blk] using hg
    subst e
    exact lt_of_some hh
/-- Two lists, one behind the other, behind an empty one. -/
theorem both {w : World} {ua ub : Value} {xs ys : List Ln} (ha : LsAt w (· < w.heap.size) ua xs) (hb : LsAt w (· < w.heap.size) ub ys) (la : xs.length ≤ 1000) (lb : ys.length ≤ 1000) :
    ∃ v1 w1 v2 w2, (Builtin.append_ #[22, 22] 22 #[.slice (some ⟨w.heap.size, 0, none⟩) 0 0, ua]).run Tryz.prog (w.alloc (.cells #[] 28)) = .ok v1 w1 ∧ (Builtin.append_ #[22, 22] 22 #[v1, ub]).run Tryz.prog w1 = .ok v2 w2 ∧
      LsAt w2 (· < w2.heap.size) v2 (xs ++ ys) ∧ Below w.heap.size w w2 := by
  obtain ⟨rA, hA, rfl, hrA⟩ := ha
  obtain ⟨rB, hB, rfl, hrB⟩ := hb
  simp only [List.length_map] at la lb
  have h0 : GO eL (w.alloc (.cells #[] 28)) w.heap.size (.slice (some ⟨w.heap.size, 0, none⟩) 0 0) [] := go_made eL w [] (by simp)
  have b0 : Below w.heap.size w (w.alloc (.cells #[] 28)) := al w _
  obtain ⟨v1, w1, r1, g1, b1⟩ := go_app eL h0 b0.size (hA.1.later b0) (by simp) (by rw [List.length_map]; omega)
  have b01 := b0.trans b1
  rw [List.nil_append] at g1
  obtain ⟨v2, w2, r2, g2, b2⟩ := go_app eL g1 b01.size (hB.1.later b01) (by rw [List.length_map]; omega) (by rw [List.length_map]; omega)
  have b02 := b01.trans b2
  refine ⟨v1, w1, v2, w2, r1, r2, ⟨rA ++ rB, ⟨?_, fun _ => ?_⟩, by simp, fun p hp => ?_⟩, b02⟩
  · rw [List.map_append]; exact g2.gl
  · exact g2.blk_lt
  · rcases List.mem_append.1 hp with hp | hp
    · exact ((hrA p hp).low b02).mono (fun q hq _ => hq)
    · exact ((hrB p hp).low b02).mono (fun q hq _ => hq)
theorem printP_app (xs ys : List Ln) (h : (xs ++ ys).all lineB = true) : printP (xs ++ ys) = printP xs ++ printP ys := by
  have h2 := h
  rw [List.all_append, Bool.and_eq_true] at h2
  unfold printP
  rw [if_pos h, if_pos h2.1, if_pos h2.2, List.flatMap_append]
theorem printP_le (ls : List Ln) : (printP ls).length ≤ (ls.flatMap lineT).length := by
  unfold printP
  split
  · exact Nat.le_refl _
  · simp
end Go.Proofs.YtpjcpdnolcehcaaGreatDoor
