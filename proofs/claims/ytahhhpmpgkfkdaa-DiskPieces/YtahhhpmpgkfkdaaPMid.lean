/- What this text holds: behind a write that waits, its byte is told by the map. -/
import Derived.Test.YtahhhpmpgkfkdaaPStore
namespace Go.Proofs.Ytahhhpmpgkfkdaa
open Go.RowKit Go.Maps Go.WideElems Go.ChangeShapes
set_option linter.unusedVariables false

structure PMid (w0 w : World) (b bb mb j : Nat) (own bown ex : List Nat) (D F : DS) (G : DataW Unit) : Prop where
  d : Disk w w0.heap.size b own D
  o : Disk w w0.heap.size bb bown F
  g : w.ownsGroups Try.prog 3 (mb + 1) 5 .u8 mb j G
  sh : w.Shuns mb (fun x => x ∈ own ++ bown ++ ex)
  dj : ∀ i ∈ own, i ∉ bown
  m1 : mb ∉ own ++ bown ++ ex
  ex1 : ∀ i ∈ ex, i < w.heap.size
  mB : w0.heap.size ≤ mb
  b : Below w0.heap.size w0 w

theorem PMid.later {w0 wr w' : World} {b bb mb j : Nat} {own bown ex : List Nat} {D F : DS} {G : DataW Unit} (h : PMid w0 wr b bb mb j own bown ex D F G) (hb : Below wr.heap.size wr w') : PMid w0 w' b bb mb j own bown ex D F G :=
  { h with
    d := h.d.keep (Kept.ofBelow hb []) (by simp)
    o := h.o.keep (Kept.ofBelow hb []) (by simp)
    g := groups_keptS h.g (Kept.ofBelow hb []) (by simp) (fun _ _ _ _ _ _ _ => by simp)
    sh := shuns_keptS h.sh (Kept.ofBelow hb []) (groups_lt h.g) (by simp)
    ex1 := fun i hi => Nat.lt_of_lt_of_le (h.ex1 i hi) hb.size
    b := h.b.trans (hb.mono h.b.size) }
theorem PMid.store {w0 L w2 : World} {b bb mb j : Nat} {own bown ex : List Nat} {D F : DS} {G G' : DataW Unit} {v : Value} (h : PMid w0 L b bb mb j own bown ex D F G) (hG : w2.ownsGroups Try.prog 3 (mb + 1) 5 .u8 mb (j + 1) G') (hk : Kept (mb :: v.ownBlock.toList) L w2)
    (hsh : w2.Shuns mb (fun x => x ∈ own ++ bown ++ ex)) (hv : ∀ g, v.ownBlock = some g → ¬ (g ∈ own ++ bown ++ ex)) (hvB : ∀ g, v.ownBlock = some g → w0.heap.size ≤ g) : PMid w0 w2 b bb mb (j + 1) own bown ex D F G' := by
  have hm1 := h.m1
  simp only [List.mem_append, not_or] at hm1
  have hoff : ∀ i, i ∈ own ++ bown ++ ex → i ∉ mb :: v.ownBlock.toList := fun i hi hm => by
    simp only [List.mem_cons, Option.mem_toList] at hm
    rcases hm with rfl | hm
    · exact h.m1 hi
    · exact hv i hm hi
  refine ⟨h.d.keep hk (fun i hi => hoff i (by simp only [List.mem_append]; exact .inl (.inl hi))), h.o.keep hk (fun i hi => hoff i (by simp only [List.mem_append]; exact .inl (.inr hi))), hG, hsh, h.dj, h.m1, fun i hi => Nat.lt_of_lt_of_le (h.ex1 i hi) hk.size, h.mB, ?_⟩
  refine below_kept h.b hk (fun i hi => ?_) h.b.size
  simp only [List.mem_cons, Option.mem_toList] at hi
  rcases hi with rfl | hi
  · exact h.mB
  · exact hvB i hi

theorem fieldk35 (r k : Nat) (w : World) (hk : k < 5) : (Instr.fieldAt 35 (.pointer (some ⟨r, 0, none⟩)) k).run Try.prog w = .ok (.pointer (some ⟨r, k, none⟩)) w := by
  rcases (by omega : k = 0 ∨ k = 1 ∨ k = 2 ∨ k = 3 ∨ k = 4) with rfl | rfl | rfl | rfl | rfl <;> kernel_rfl
theorem loadk5 {b k : Nat} {v : Value} {w : World} (h : w.cell? ⟨b, k, none⟩ = some v) : (Instr.loadAt 5 (.pointer (some ⟨b, k, none⟩))).run Try.prog w = .ok v w := by
  simp [Instr.loadAt, Instr.sureAddr, loadVar, isAgg, run_underlying Try.underlying5, h]
theorem loadk3' {b k : Nat} {v : Value} {w : World} (h : w.cell? ⟨b, k, none⟩ = some v) : (Instr.loadAt 3 (.pointer (some ⟨b, k, none⟩))).run Try.prog w = .ok v w := by
  simp [Instr.loadAt, Instr.sureAddr, loadVar, isAgg, run_underlying Try.underlying3, h]

/-- The look-up, the append and the store, from the world in which the map is read (L) and that in which the byte lies alone (X1). -/
theorem pmid_store {w0 L X1 : World} {b bb mb j g9 i : Nat} {own bown ex : List Nat} {D D' F : DS} {G : DataW Unit} {v : ActV} {u : Value} {zs : List Int} {q : Nat} (h : PMid w0 L b bb mb j own bown ex D' F G) (hj2 : j ≤ 100) (hi : i < 4096)
    (hat : G.atKey (.int .i64 i) .nil = rowDatum .u8 u zs) (hoi : L.ownsInts (mb + 1) 5 .u8 u zs) (hzl : zs.length ≤ j) (hback : L.groupBack Try.prog 52 3 (mb + 1) 5 .u8 mb j G (.int .i64 i) (.int .i64 i) u) (hshv : ∀ No : Nat → Prop, L.Shuns mb No → ∀ g, u.ownBlock = some g → ¬ No g)
    (hL : ∀ row, L.grownBy X1 row) (hsrc : X1.cell? ⟨g9, 0, none⟩ = some (.int .u8 v.by_)) (hx1 : 0 ≤ v.by_) (hx2 : v.by_ ≤ 255) (hq : q ∈ ex) (hS : BoxS q v L) (hT : Told D.waits G) (hws : D'.waits = D.waits ++ [((i : Int), rep 512 v.by_)]) :
    ∃ v' w1 w2, (Builtin.append_ #[40, 40] 40 #[u, .slice (some ⟨g9, 0, none⟩) 1 1]).run Try.prog X1 = .ok v' w1 ∧ (Instr.mapUpdate 52 (.map (some mb)) (.int .i64 i) v').run Try.prog w1 = .ok () w2 ∧
      BoxS q v w1 ∧ BoxS q v w2 ∧ Hid (∃ G', PMid w0 w2 b bb mb (j + 1) own bown ex D' F G' ∧ Told D'.waits G') := by
  have hlt : ∀ g, (fun x => x ∈ own ++ bown ++ ex) g → g < L.heap.size := fun g hg => by
    simp only [List.mem_append] at hg
    rcases hg with (hg | hg) | hg
    · exact (h.d.lt g hg).2
    · exact (h.o.lt g hg).2
    · exact h.ex1 g hg
  have hvn := hshv _ h.sh
  have hml := groups_lt h.g
  obtain ⟨v', w1, w2, r1, r2, r3, k1, k2, r4⟩ := pstore (x := v.by_) h.g (by unfold maxLen; omega) hi hback hoi hzl hj2 hL (by omega) hsrc hx1 hx2 h.sh hvn hlt
  have hq1 : q ∉ u.ownBlock.toList := fun hm => by
    simp only [Option.mem_toList] at hm
    exact hvn q hm (by simp only [List.mem_append]; exact .inr hq)
  have hq2 : q ∉ mb :: u.ownBlock.toList := fun hm => by
    rcases List.mem_cons.1 hm with rfl | hm
    · exact h.m1 (by simp only [List.mem_append]; exact .inr hq)
    · exact hq1 hm
  refine ⟨v', w1, w2, r1, r2, box_kept k1 hq1 hS.1 hS.2.1 hS.2.2.1 hS.2.2.2.1 hS.2.2.2.2, box_kept k2 hq2 hS.1 hS.2.1 hS.2.2.1 hS.2.2.2.1 hS.2.2.2.2, _, h.store r3 k2 r4 hvn (fun g hg => ?_), ?_⟩
  · have := (hoi.1.lt g hg).1; have := h.mB; omega
  · rw [hws]
    exact told_put hT (groups_isMap h.g) hoi hat
end Go.Proofs.Ytahhhpmpgkfkdaa
