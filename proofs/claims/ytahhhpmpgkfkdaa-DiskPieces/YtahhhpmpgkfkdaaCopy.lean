/- What this text holds: 'Copy': another disk that is the same. -/
import Derived.Test.YtahhhpmpgkfkdaaCrash
namespace Go.Proofs.Ytahhhpmpgkfkdaa
open Go.RowKit
set_option linter.unusedVariables false

/-- The variable 'other', as it is made. -/
def otherX (bs sc : Nat) (wv : Value) (D : DS) : Obj := .cells #[.slice (some ⟨bs, 0, none⟩) D.n sc, wv, .int .i64 D.fuse, .bool D.gone, .int .i64 D.steps] 66 (0, 0)

theorem copy_one {w w1 : World} {B b bs sc : Nat} {wv : Value} {D : DS} (h : DiskAt w B b bs sc wv D) {g c : Nat} (hb : Below (w.alloc (otherX bs sc wv D)).heap.size (w.alloc (otherX bs sc wv D)) w1)
    (ho : w1.ownsRow (w.alloc (otherX bs sc wv D)).heap.size 73 512 (.slice (some ⟨g, 0, none⟩) D.n c) D.n (bc D.secs)) :
    w1.cell? ⟨w.heap.size, 0, none⟩ = some (.slice (some ⟨bs, 0, none⟩) D.n sc) ∧ w1.frozen? ⟨w.heap.size, 0, none⟩ = false ∧
    DiskAt (w1.setCell ⟨w.heap.size, 0, none⟩ (.slice (some ⟨g, 0, none⟩) D.n c)) B b bs sc wv D ∧
    (w1.setCell ⟨w.heap.size, 0, none⟩ (.slice (some ⟨g, 0, none⟩) D.n c)).heap[w.heap.size]? = some (.cells #[.slice (some ⟨g, 0, none⟩) D.n c, wv, .int .i64 D.fuse, .bool D.gone, .int .i64 D.steps] 66 (0, 0)) ∧
    (w1.setCell ⟨w.heap.size, 0, none⟩ (.slice (some ⟨g, 0, none⟩) D.n c)).ownsRow w.heap.size 73 512 (.slice (some ⟨g, 0, none⟩) D.n c) D.n (bc D.secs) ∧ w.heap.size < g ∧ g < w1.heap.size ∧
    Below w.heap.size w (w1.setCell ⟨w.heap.size, 0, none⟩ (.slice (some ⟨g, 0, none⟩) D.n c)) := by
  have hsz : (w.alloc (otherX bs sc wv D)).heap.size = w.heap.size + 1 := by simp
  rw [hsz] at hb ho
  have q0 : (w.alloc (otherX bs sc wv D)).heap[w.heap.size]? = some (otherX bs sc wv D) := heap_alloc_new _ _
  have q1 : w1.heap[w.heap.size]? = some (otherX bs sc wv D) := (hb.block _ (by omega)).trans q0
  have hB : Below w.heap.size w w1 := ((Below.refl _ _).alloc (Nat.le_refl _) _).trans (hb.mono (by omega))
  have hl := ho.lt g rfl
  have hd1 : DiskAt w1 B b bs sc wv D := h.keep (Kept.ofBelow hB []) (by simp)
  refine ⟨by simp [World.cell?, q1, otherX], by simp [World.frozen?, q1, otherX], ?_, ?_, ?_, by omega, hl.2, hB.setCell (Nat.le_refl _) _⟩
  · exact hd1.keep (Kept.setCell [w.heap.size] w1 _ _ (by simp)) (fun i hi => by have := (h.lt i hi).2; simp only [List.mem_singleton]; omega)
  · simp [World.setCell, Array.getElem?_modify, q1, otherX]
  · exact ownsRow_base (ownsRow_setCell_below ho (by simp) _) (by omega)

theorem copy_two {w wa w2 : World} {B b bs sc : Nat} {wv : Value} {D : DS} (h : DiskAt w B b bs sc wv D) {g c : Nat}
    (q : wa.heap[w.heap.size]? = some (.cells #[.slice (some ⟨g, 0, none⟩) D.n c, wv, .int .i64 D.fuse, .bool D.gone, .int .i64 D.steps] 66 (0, 0)))
    (ho : wa.ownsRow w.heap.size 73 512 (.slice (some ⟨g, 0, none⟩) D.n c) D.n (bc D.secs)) (h1 : w.heap.size < g) (h2 : g < wa.heap.size) (hB : Below w.heap.size w wa)
    {v : Value} (hb : Below wa.heap.size wa w2) (ho2 : w2.ownsRow wa.heap.size 75 513 v D.waits.length (wcs D.waits)) :
    w2.cell? ⟨w.heap.size, 1, none⟩ = some wv ∧ w2.frozen? ⟨w.heap.size, 1, none⟩ = false ∧
    Disk (w2.setCell ⟨w.heap.size, 1, none⟩ v) w.heap.size w.heap.size (w.heap.size :: g :: v.ownBlock.toList) D ∧ Below w.heap.size w (w2.setCell ⟨w.heap.size, 1, none⟩ v) := by
  have q2 := (hb.block w.heap.size (by omega)).trans q
  have ho3 : w2.ownsRow w.heap.size 73 512 (.slice (some ⟨g, 0, none⟩) D.n c) D.n (bc D.secs) := ownsRow_block ho fun k hk => hb.block k (ho.lt k hk).2
  have hk := Kept.setCell [w.heap.size] w2 ⟨w.heap.size, 1, none⟩ v (by simp)
  refine ⟨by simp [World.cell?, q2], by simp [World.frozen?, q2], ⟨g, c, v, ?_, rfl⟩, (hB.trans (hb.mono (by omega))).setCell (Nat.le_refl _) _⟩
  have hv : ∀ k, v.ownBlock = some k → wa.heap.size ≤ k ∧ k < w2.heap.size := fun k hk => ho2.lt k hk
  refine { blk := ?_, secs := ?_, waits := ?_, ne1 := by omega, ne2 := fun e => by have := hv _ e; omega, ne3 := fun e => by have := hv _ e; omega, hB := Nat.le_refl _, good := h.good }
  · simp [World.setCell, Array.getElem?_modify, q2]
  · exact ownsRow_block ho3 fun k hk' => hk.block k (ho3.lt k hk').2 (by simp only [Value.ownBlock, Option.some.injEq] at hk'; subst hk'; simp only [List.mem_singleton]; omega)
  · exact ownsRow_base (ownsRow_block ho2 fun k hk' => hk.block k (hv k hk').2 (by simp only [List.mem_singleton]; have := hv k hk'; omega)) (by omega)

set_option maxRecDepth 100000 in
set_option maxHeartbeats 2000000 in
theorem copy_any {w : World} {B b bs sc : Nat} {wv : Value} {D : DS} (h : DiskAt w B b bs sc wv D) :
    Calls Try.prog 16 #[.pointer (some ⟨b, 0, none⟩)] w (MadeDisk w D) := by
  obtain ⟨a, wc, rfl⟩ := h.wvSlice
  obtain ⟨c0, c1, c2, c3, c4⟩ := h.cells
  have hn1 := h.good.n1
  have hn2 := h.good.n2
  have hwl := h.good.wl
  have HH := hid h
  have HA := hid (h.keep (Kept.alloc [] w (otherX bs sc (.slice a D.waits.length wc) D)) (by simp))
  have hbl := (h.lt b (by simp)).2
  clear h
  go_enter Try.func16, Try.ntmps16
  go_wp2_with fail
  refine (another_any HA.out.cells.1 HA.out.secs hn1 hn2).mono ?_
  rintro e w1 ⟨g, c, rfl, hg, ho, hb⟩
  obtain ⟨x1, x2, x3, x4, x5, x6, x7, x8⟩ := copy_one HH.out hb ho
  have y1 := x3.cells.2.1
  have X3 := hid x3
  have X4 := hid x4
  have X5 := hid x5
  have X8 := hid x8
  clear x3 x4 x5 x8 ho hb hg
  go_wp2_with fail
  refine (cloneWaits X3.out.waits hwl).mono ?_
  rintro e w2 ⟨v, rfl, ho2, hb2⟩
  obtain ⟨z1, z2, z3, z4⟩ := copy_two HH.out X4.out X5.out x6 (by simpa using x7) X8.out hb2 ho2
  obtain ⟨va, vc, rfl⟩ : ∃ va vc, v = .slice va D.waits.length vc := by
    rcases ho2.2 with ⟨h1, h2⟩ | ⟨g, cap, cur, h1, _⟩
    · exact ⟨none, 0, by rw [h1, h2]⟩
    · exact ⟨_, _, h1⟩
  have Z3 := hid z3
  have Z4 := hid z4
  clear z3 z4 ho2 hb2
  go_wp2
  go_ret
  exact ⟨_, _, rfl, Z3.out, Z4.out⟩
end Go.Proofs.Ytahhhpmpgkfkdaa
