/- What this text holds: a line that is too long. -/
import Derived.Test.YtikcbgoocljgnaaDoorM14
import Derived.Deep.RegionWith
namespace Go.Proofs.YtikcbgoocljgnaaDoor
open Go.RowKit
set_option linter.unusedVariables false
set_option linter.unusedSimpArgs false

/-- What is left when a line was told as too long: the event's block, the answer's block, the feed. -/
theorem long_fin {w W4 : World} {b R q : Nat} {own : List Nat} {vT vL : Value} {T L : List Bs} (hf : FAt W4 b [b] Fd.zero) (gt : GO eS W4 0 vT T) (gl : GO eS W4 0 vL L) (hq : W4.heap[q]? = some (.cells #[.int .i64 3, vT, vL] 41 (0, 0))) (hR : W4.heap[R]? = some (.cells #[.int .i64 0, .slice none 0 0, .slice none 0 0] 41 (0, 0))) (hRw : w.heap.size ≤ R) (hbo : b ∈ own) (hk : Kept own w W4) :
    (∃ nv, W4.cell? ⟨b, 7, none⟩ = some nv) ∧ W4.frozen? ⟨b, 7, none⟩ = false ∧
    (W4.setCell ⟨b, 7, none⟩ (.func (.func 31) #[.pointer (some ⟨b, 0, none⟩)] #[])).heap[q]? = some (.cells #[.int .i64 3, vT, vL] 41 (0, 0)) ∧ (W4.setCell ⟨b, 7, none⟩ (.func (.func 31) #[.pointer (some ⟨b, 0, none⟩)] #[])).heap[R]? = some (.cells #[.int .i64 0, .slice none 0 0, .slice none 0 0] 41 (0, 0)) ∧
    ((((W4.setCell ⟨b, 7, none⟩ (.func (.func 31) #[.pointer (some ⟨b, 0, none⟩)] #[])).setCell ⟨R, 0, none⟩ (.int .i64 3)).setCell ⟨R, 1, none⟩ vT).setCell ⟨R, 2, none⟩ vL).heap[R]? = some (.cells #[.int .i64 3, vT, vL] 41 (0, 0)) ∧
    StepTo w b own { Fd.zero with nx := .pline } 3 T L (.returned (.agg #[.int .i64 3, vT, vL])) ((((W4.setCell ⟨b, 7, none⟩ (.func (.func 31) #[.pointer (some ⟨b, 0, none⟩)] #[])).setCell ⟨R, 0, none⟩ (.int .i64 3)).setCell ⟨R, 1, none⟩ vT).setCell ⟨R, 2, none⟩ vL) := by
  obtain ⟨vt, vl, vu, f, he⟩ := hf
  have r1 := f.r4.set 7 (.func (.func 31) #[.pointer (some ⟨b, 0, none⟩)] #[])
  have hbq : q ≠ b := fun e => by have := f.row; rw [← e, hq] at this; simp at this
  have hbR : R ≠ b := fun e => by have := f.row; rw [← e, hR] at this; simp at this
  have hq5 : (W4.setCell ⟨b, 7, none⟩ (.func (.func 31) #[.pointer (some ⟨b, 0, none⟩)] #[])).heap[q]? = some (.cells #[.int .i64 3, vT, vL] 41 (0, 0)) := by rw [Below.heap_setCell _ _ _ _ hbq]; exact hq
  have hR5 : (W4.setCell ⟨b, 7, none⟩ (.func (.func 31) #[.pointer (some ⟨b, 0, none⟩)] #[])).heap[R]? = some (.cells #[.int .i64 0, .slice none 0 0, .slice none 0 0] 41 (0, 0)) := by rw [Below.heap_setCell _ _ _ _ hbR]; exact hR
  have n1 : ∀ g, vT.ownBlock = some g → g ≠ b := fun g hg e => by subst e; exact gt.ne (by decide) f.row hg
  have n2 : ∀ g, vL.ownBlock = some g → g ≠ b := fun g hg e => by subst e; exact gl.ne (by decide) f.row hg
  have kb := kept1 W4 b 7 (.func (.func 31) #[.pointer (some ⟨b, 0, none⟩)] #[])
  have hf5 : FAt (W4.setCell ⟨b, 7, none⟩ (.func (.func 31) #[.pointer (some ⟨b, 0, none⟩)] #[])) b [b] { Fd.zero with nx := .pline } := ⟨vt, vl, vu, r1.fin { Fd.zero with nx := .pline } rfl rfl rfl rfl f.tl, he⟩
  obtain ⟨u1, u2⟩ := ev_out (w := w) (own := own) (k := 3) hR5 rfl hRw (gt.kept kb (fun g hg => by rw [List.mem_singleton]; exact n1 g hg)) (gl.kept kb (fun g hg => by rw [List.mem_singleton]; exact n2 g hg)) hf5 (hk.trans kb (fun i _ hi => by rw [List.mem_singleton] at hi; rw [hi]; exact hbo)) (fun g hg => by rw [List.mem_singleton] at hg; rw [hg]; exact .inl hbo) (fun g hg => by rw [List.mem_singleton]; exact n1 g hg) (fun g hg => by rw [List.mem_singleton]; exact n2 g hg)
  exact ⟨⟨_, f.r4.cell 7 rfl⟩, f.r4.free 7, hq5, hR5, u1, u2⟩
/-- The call's order: the event's block was made behind the call. -/
theorem long_new {w w3 : World} {b R : Nat} {own own1 : List Nat} {vT vL : Value} {T L : List Bs} {W : World} (hf : FAt w3 b [b] Fd.zero) (gt : GO eS w3 0 vT T) (gl : GO eS w3 0 vL L) (hk3 : Kept own1 W w3) (hR : W.heap[R]? = some (.cells #[.int .i64 0, .slice none 0 0, .slice none 0 0] 41 (0, 0))) (hRo : R ∉ own1) (hkW : Kept own w W) (ho1 : ∀ g ∈ own1, g ∈ own ∨ w.heap.size ≤ g) :
    FAt (w3.alloc (.cells #[.int .i64 3, vT, vL] 41)) b [b] Fd.zero ∧ GO eS (w3.alloc (.cells #[.int .i64 3, vT, vL] 41)) 0 vT T ∧ GO eS (w3.alloc (.cells #[.int .i64 3, vT, vL] 41)) 0 vL L ∧ (w3.alloc (.cells #[.int .i64 3, vT, vL] 41)).heap[w3.heap.size]? = some (.cells #[.int .i64 3, vT, vL] 41 (0, 0)) ∧ (w3.alloc (.cells #[.int .i64 3, vT, vL] 41)).heap[R]? = some (.cells #[.int .i64 0, .slice none 0 0, .slice none 0 0] 41 (0, 0)) ∧ Kept own w (w3.alloc (.cells #[.int .i64 3, vT, vL] 41)) := by
  have hal : Below w3.heap.size w3 (w3.alloc (.cells #[.int .i64 3, vT, vL] 41)) := (Below.refl _ _).alloc (Nat.le_refl _) _
  have hR3 := keep_blk hk3 hR hRo
  have hws := hkW.size
  refine ⟨hf.below hal, gt.later hal, gl.later hal, heap_alloc_new _ _, (hal.block _ (lt_of_some hR3)).trans hR3, ?_⟩
  exact (hkW.trans hk3 (fun i hi hm => by rcases ho1 i hm with e | e; exact e; omega)).trans (Kept.alloc _ _ _) (fun _ _ h => h)
/-- The call's order: the event's block was made ahead. -/
theorem long_old {w w3 : World} {b R q : Nat} {own own1 : List Nat} {vT vL : Value} {T L : List Bs} {W : World} (hf : FAt w3 b [b] Fd.zero) (gt : GO eS w3 0 vT T) (gl : GO eS w3 0 vL L) (hk3 : Kept own1 W w3) (hR : W.heap[R]? = some (.cells #[.int .i64 0, .slice none 0 0, .slice none 0 0] 41 (0, 0))) (hRo : R ∉ own1) (hq : W.heap[q]? = some (.cells #[.int .i64 0, .slice none 0 0, .slice none 0 0] 41 (0, 0))) (hqo : q ∉ own1) (hqR : R ≠ q) (hqw : w.heap.size ≤ q) (hkW : Kept own w W) (ho1 : ∀ g ∈ own1, g ∈ own ∨ w.heap.size ≤ g) :
    w3.heap[q]? = some (.cells #[.int .i64 0, .slice none 0 0, .slice none 0 0] 41 (0, 0)) ∧ FAt (((w3.setCell ⟨q, 0, none⟩ (.int .i64 3)).setCell ⟨q, 1, none⟩ vT).setCell ⟨q, 2, none⟩ vL) b [b] Fd.zero ∧ GO eS (((w3.setCell ⟨q, 0, none⟩ (.int .i64 3)).setCell ⟨q, 1, none⟩ vT).setCell ⟨q, 2, none⟩ vL) 0 vT T ∧ GO eS (((w3.setCell ⟨q, 0, none⟩ (.int .i64 3)).setCell ⟨q, 1, none⟩ vT).setCell ⟨q, 2, none⟩ vL) 0 vL L ∧ (((w3.setCell ⟨q, 0, none⟩ (.int .i64 3)).setCell ⟨q, 1, none⟩ vT).setCell ⟨q, 2, none⟩ vL).heap[q]? = some (.cells #[.int .i64 3, vT, vL] 41 (0, 0)) ∧ (((w3.setCell ⟨q, 0, none⟩ (.int .i64 3)).setCell ⟨q, 1, none⟩ vT).setCell ⟨q, 2, none⟩ vL).heap[R]? = some (.cells #[.int .i64 0, .slice none 0 0, .slice none 0 0] 41 (0, 0)) ∧ Kept own w (((w3.setCell ⟨q, 0, none⟩ (.int .i64 3)).setCell ⟨q, 1, none⟩ vT).setCell ⟨q, 2, none⟩ vL) := by
  have hR3 := keep_blk hk3 hR hRo
  have hq3 := keep_blk hk3 hq hqo
  have hws := hkW.size
  obtain ⟨u1, u2⟩ := put41 hq3 rfl (.int .i64 3) vT vL
  obtain ⟨p1, p2, p3, p4⟩ := u2.out hq3 gt gl hf (hkW.trans hk3 (fun i hi hm => by rcases ho1 i hm with e | e; exact e; omega)) hqw
  exact ⟨hq3, p3, p1, p2, u1, keep_blk u2 hR3 (by rw [List.mem_singleton]; exact hqR), p4⟩
end Go.Proofs.YtikcbgoocljgnaaDoor
