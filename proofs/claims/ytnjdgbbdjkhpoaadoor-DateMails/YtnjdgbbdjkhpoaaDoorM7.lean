/- What this text holds: the document's Mail: plain facts. -/
import Derived.Test.YtnjdgbbdjkhpoaaDoorM6
namespace Go.Proofs.YtnjdgbbdjkhpoaaDoor
open Go.RowKit
set_option linter.unusedVariables false
set_option linter.unusedSimpArgs false

theorem finA {w V v : World} (h0 : V.heap[w.heap.size]? = some (.cells (dtL Dt.zero).toArray 29 (0, 0))) (hB : Below w.heap.size w V) (hb : Below (V.alloc (.cells (dtL Dt.zero).toArray 29)).heap.size (V.alloc (.cells (dtL Dt.zero).toArray 29)) v) (hG : v.heap[V.heap.size]? = some (.cells (dtL Dt.zero).toArray 29 (0, 0))) (D : Dt) :
    (putD v V.heap.size D).heap[V.heap.size]? = some (.cells (dtL D).toArray 29 (0, 0)) ∧ (putD v V.heap.size D).heap[w.heap.size]? = some (.cells (dtL Dt.zero).toArray 29 (0, 0)) ∧ Below w.heap.size w (putD v V.heap.size D) := by
  have e0 := putD_is v V.heap.size Dt.zero D hG
  have hl := lt_of_some h0
  have hz := (hb.block w.heap.size (by simp; omega)).trans ((Below.heap_alloc _ _ _ hl).trans h0)
  have hbb := (hB.alloc hB.size (.cells (dtL Dt.zero).toArray 29)).trans (hb.mono (hB.alloc hB.size _).size)
  exact ⟨e0.1, (e0.2.2.block w.heap.size (lt_of_some hz) (by simp; omega)).trans hz, below_kept hbb e0.2.2 (by simp; omega) hbb.size⟩
theorem finB {w V v : World} (h0 : V.heap[w.heap.size]? = some (.cells (dtL Dt.zero).toArray 29 (0, 0))) (hB : Below w.heap.size w V) (hb : Below V.heap.size V v) (D : Dt) :
    (v.alloc (.cells (dtL D).toArray 29)).heap[v.heap.size]? = some (.cells (dtL D).toArray 29 (0, 0)) ∧ (v.alloc (.cells (dtL D).toArray 29)).heap[w.heap.size]? = some (.cells (dtL Dt.zero).toArray 29 (0, 0)) ∧ Below w.heap.size w (v.alloc (.cells (dtL D).toArray 29)) := by
  have hl := lt_of_some h0
  have hz := (hb.block w.heap.size hl).trans h0
  have hb0 := hB.trans (hb.mono hB.size)
  exact ⟨heap_alloc_new _ _, (Below.heap_alloc _ _ _ (lt_of_some hz)).trans hz, hb0.alloc hb0.size _⟩
theorem newAt (V : World) : (V.alloc (.cells (dtL Dt.zero).toArray 29)).heap[V.heap.size]? = some (.cells (dtL Dt.zero).toArray 29 (0, 0)) := heap_alloc_new _ _
theorem mailT5 (k0 k1 k2 k3 k4 : Bs) : mailT [k0, k1, k2, k3, k4] = if k0.length ≤ 2 ∧ k2.length = 4 ∧ zokR k4 = true ∧ RightP (mailD k0 k1 k2 k3 k4) then some (mailD k0 k1 k2 k3 k4) else none := rfl
theorem zok_gmt {k : Bs} (h : low k = [103, 109, 116]) : zokR k = true := by unfold zokR; rw [h]; simp
theorem zok_ut {k : Bs} (h : low k = [117, 116]) : zokR k = true := by unfold zokR; rw [h]; simp
theorem zok_num {k : Bs} (h : (zoneT k).isSome = true) : zokR k = true := by unfold zokR; rw [h]; rfl
theorem zok_bad {k : Bs} (h1 : low k ≠ [103, 109, 116]) (h2 : low k ≠ [117, 116]) (h : (zoneT k).isSome = false) : zokR k = false := by unfold zokR; rw [h]; simp [h1, h2]
def Q0 (w : World) (g : Nat) (k0 k1 k2 k3 k4 : Bs) : Prop := w.cell? ⟨g, 0, none⟩ = some (.string (str k0)) ∧ w.cell? ⟨g, 1, none⟩ = some (.string (str k1)) ∧ w.cell? ⟨g, 2, none⟩ = some (.string (str k2)) ∧ w.cell? ⟨g, 3, none⟩ = some (.string (str k3)) ∧ w.cell? ⟨g, 4, none⟩ = some (.string (str k4))
theorem Q0.lt {w : World} {g : Nat} {k0 k1 k2 k3 k4 : Bs} (h : Q0 w g k0 k1 k2 k3 k4) : g < w.heap.size := World.block_lt_of_cell? w ⟨g, 0, none⟩ h.1
theorem Q0.later {w w' : World} {g : Nat} {k0 k1 k2 k3 k4 : Bs} (h : Q0 w g k0 k1 k2 k3 k4) (hb : Below w.heap.size w w') : Q0 w' g k0 k1 k2 k3 k4 := by
  have hl := h.lt
  obtain ⟨a, b, c, d, e⟩ := h
  exact ⟨(hb.cell (p := ⟨g, 0, none⟩) hl).trans a, (hb.cell (p := ⟨g, 1, none⟩) hl).trans b, (hb.cell (p := ⟨g, 2, none⟩) hl).trans c, (hb.cell (p := ⟨g, 3, none⟩) hl).trans d, (hb.cell (p := ⟨g, 4, none⟩) hl).trans e⟩
def Q1 (w : World) (g : Nat) (k0 k1 k2 k3 k4 : Bs) : Prop := w.cell? ⟨g, 1, none⟩ = some (.string (str k0)) ∧ w.cell? ⟨g, 2, none⟩ = some (.string (str k1)) ∧ w.cell? ⟨g, 3, none⟩ = some (.string (str k2)) ∧ w.cell? ⟨g, 4, none⟩ = some (.string (str k3)) ∧ w.cell? ⟨g, 5, none⟩ = some (.string (str k4))
theorem Q1.lt {w : World} {g : Nat} {k0 k1 k2 k3 k4 : Bs} (h : Q1 w g k0 k1 k2 k3 k4) : g < w.heap.size := World.block_lt_of_cell? w ⟨g, 1, none⟩ h.1
theorem Q1.later {w w' : World} {g : Nat} {k0 k1 k2 k3 k4 : Bs} (h : Q1 w g k0 k1 k2 k3 k4) (hb : Below w.heap.size w w') : Q1 w' g k0 k1 k2 k3 k4 := by
  have hl := h.lt
  obtain ⟨a, b, c, d, e⟩ := h
  exact ⟨(hb.cell (p := ⟨g, 1, none⟩) hl).trans a, (hb.cell (p := ⟨g, 2, none⟩) hl).trans b, (hb.cell (p := ⟨g, 3, none⟩) hl).trans c, (hb.cell (p := ⟨g, 4, none⟩) hl).trans d, (hb.cell (p := ⟨g, 5, none⟩) hl).trans e⟩
end Go.Proofs.YtnjdgbbdjkhpoaaDoor
