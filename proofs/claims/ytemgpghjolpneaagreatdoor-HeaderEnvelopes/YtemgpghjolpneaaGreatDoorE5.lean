/- What this text holds: two envelopes of the same fields are the same. -/
import Derived.Test.YtemgpghjolpneaaGreatDoorE4
namespace Go.Proofs.YtemgpghjolpneaaGreatDoor
open Go.RowKit
set_option linter.unusedVariables false
set_option linter.unusedSimpArgs false

theorem EvV.later {w w' : World} {v : Value} {l : List (Bs × Bs)} (h : EvV w v l) (hb : Below w.heap.size w w') : EvV w' v l := by
  obtain ⟨x0, x1, x2, x3, x4, x5, x6, x7, x8, x9, rfl, a0, a1, a8, a9, a2, a3, a4, a5, a6, a7⟩ := h
  exact ⟨x0, x1, x2, x3, x4, x5, x6, x7, x8, x9, rfl, a0.later hb, a1.later hb, a8.later hb, a9.later hb, a2.later hb, a3.later hb, a4.later hb, a5.later hb, a6.later hb, a7.later hb⟩
set_option maxRecDepth 100000 in
set_option maxHeartbeats 2000000 in
theorem same_any {w : World} {va vb : Value} {l : List (Bs × Bs)} (ha : EvV w va l) (hb : EvV w vb l) (hf : ∀ f ∈ l, f.2.length ≤ 10000) :
    Calls Tryz.prog 5 #[va, vb] w fun e w' => e = .returned (.bool true) ∧ Below w.heap.size w w' := by
  obtain ⟨x0, x1, x2, x3, x4, x5, x6, x7, x8, x9, rfl, a0, a1, a8, a9, a2, a3, a4, a5, a6, a7⟩ := ha
  obtain ⟨y0, y1, y2, y3, y4, y5, y6, y7, y8, y9, rfl, b0, b1, b8, b9, b2, b3, b4, b5, b6, b7⟩ := hb
  have A0 := hid a0
  have B0 := hid b0
  have A1 := hid a1
  have B1 := hid b1
  have A2 := hid a2
  have B2 := hid b2
  have A3 := hid a3
  have B3 := hid b3
  have A4 := hid a4
  have B4 := hid b4
  have A5 := hid a5
  have B5 := hid b5
  have A6 := hid a6
  have B6 := hid b6
  have A7 := hid a7
  have B7 := hid b7
  have A8 := hid a8
  have B8 := hid b8
  have A9 := hid a9
  have B9 := hid b9
  clear a0 a1 a2 a3 a4 a5 a6 a7 a8 a9 b0 b1 b2 b3 b4 b5 b6 b7 b8 b9
  have HAl : Hid (∀ n, (addrP l n).length ≤ 10000) := fun n => addr_len n hf
  have HTl : Hid (∀ n, (textP l n).length ≤ 1) := fun n => text_len l n
  have hal : Below w.heap.size w ((w.alloc (.cells #[x0, x1, x2, x3, x4, x5, x6, x7, x8, x9] 27)).alloc (.cells #[y0, y1, y2, y3, y4, y5, y6, y7, y8, y9] 27)) := ((Below.refl _ _).alloc (Nat.le_refl _) _).alloc (by simp) _
  have HB0 := hid hal
  have HP0 : Hid (((w.alloc (.cells #[x0, x1, x2, x3, x4, x5, x6, x7, x8, x9] 27)).alloc (.cells #[y0, y1, y2, y3, y4, y5, y6, y7, y8, y9] 27)).heap[w.heap.size]? = some (.cells #[x0, x1, x2, x3, x4, x5, x6, x7, x8, x9] 27 (0, 0))) := by rw [Hid, heap_alloc_old _ _ (by simp)]; exact heap_alloc_new _ _
  have HQ0 : Hid (((w.alloc (.cells #[x0, x1, x2, x3, x4, x5, x6, x7, x8, x9] 27)).alloc (.cells #[y0, y1, y2, y3, y4, y5, y6, y7, y8, y9] 27)).heap[w.heap.size + 1]? = some (.cells #[y0, y1, y2, y3, y4, y5, y6, y7, y8, y9] 27 (0, 0))) := by have := heap_alloc_new (w.alloc (.cells #[x0, x1, x2, x3, x4, x5, x6, x7, x8, x9] 27)) (.cells #[y0, y1, y2, y3, y4, y5, y6, y7, y8, y9] 27); rw [show (w.alloc (.cells #[x0, x1, x2, x3, x4, x5, x6, x7, x8, x9] 27)).heap.size = w.heap.size + 1 by simp] at this; exact this
  clear hal hf
  go_enter Tryz.func5, Tryz.ntmps5
  go_wp2_with fail
  have C := texts_any (A0.out.later HB0.out) (B0.out.later HB0.out) (Nat.le_trans (HTl.out _) (by omega)) (Nat.le_trans (HTl.out _) (by omega))
  rw [show decide (textP l nDate = textP l nDate) = true by simp] at C
  refine C.mono ?_
  rintro e w1 ⟨rfl, hb⟩
  have HB1 := hid (HB0.out.trans (hb.mono HB0.out.size))
  have HP1 : Hid (w1.heap[w.heap.size]? = some (.cells #[x0, x1, x2, x3, x4, x5, x6, x7, x8, x9] 27 (0, 0))) := by rw [Hid, hb.block _ (lt_of_some HP0.out)]; exact HP0.out
  have HQ1 : Hid (w1.heap[w.heap.size + 1]? = some (.cells #[y0, y1, y2, y3, y4, y5, y6, y7, y8, y9] 27 (0, 0))) := by rw [Hid, hb.block _ (lt_of_some HQ0.out)]; exact HQ0.out
  have p1 : w1.cell? ⟨w.heap.size, 1, none⟩ = some x1 := row_cell HP1.out 1 rfl
  have q1 : w1.cell? ⟨w.heap.size + 1, 1, none⟩ = some y1 := row_cell HQ1.out 1 rfl
  clear hb C HB0 HP0 HQ0
  go_wp2_with fail
  have C := texts_any (A1.out.later HB1.out) (B1.out.later HB1.out) (Nat.le_trans (HTl.out _) (by omega)) (Nat.le_trans (HTl.out _) (by omega))
  rw [show decide (textP l nSubj = textP l nSubj) = true by simp] at C
  refine C.mono ?_
  rintro e w2 ⟨rfl, hb⟩
  have HB2 := hid (HB1.out.trans (hb.mono HB1.out.size))
  have HP2 : Hid (w2.heap[w.heap.size]? = some (.cells #[x0, x1, x2, x3, x4, x5, x6, x7, x8, x9] 27 (0, 0))) := by rw [Hid, hb.block _ (lt_of_some HP1.out)]; exact HP1.out
  have HQ2 : Hid (w2.heap[w.heap.size + 1]? = some (.cells #[y0, y1, y2, y3, y4, y5, y6, y7, y8, y9] 27 (0, 0))) := by rw [Hid, hb.block _ (lt_of_some HQ1.out)]; exact HQ1.out
  have p2 : w2.cell? ⟨w.heap.size, 8, none⟩ = some x8 := row_cell HP2.out 8 rfl
  have q2 : w2.cell? ⟨w.heap.size + 1, 8, none⟩ = some y8 := row_cell HQ2.out 8 rfl
  clear hb C HB1 HP1 HQ1 p1 q1
  go_wp2_with fail
  have C := texts_any (A8.out.later HB2.out) (B8.out.later HB2.out) (Nat.le_trans (HTl.out _) (by omega)) (Nat.le_trans (HTl.out _) (by omega))
  rw [show decide (textP l nInRe = textP l nInRe) = true by simp] at C
  refine C.mono ?_
  rintro e w3 ⟨rfl, hb⟩
  have HB3 := hid (HB2.out.trans (hb.mono HB2.out.size))
  have HP3 : Hid (w3.heap[w.heap.size]? = some (.cells #[x0, x1, x2, x3, x4, x5, x6, x7, x8, x9] 27 (0, 0))) := by rw [Hid, hb.block _ (lt_of_some HP2.out)]; exact HP2.out
  have HQ3 : Hid (w3.heap[w.heap.size + 1]? = some (.cells #[y0, y1, y2, y3, y4, y5, y6, y7, y8, y9] 27 (0, 0))) := by rw [Hid, hb.block _ (lt_of_some HQ2.out)]; exact HQ2.out
  have p3 : w3.cell? ⟨w.heap.size, 9, none⟩ = some x9 := row_cell HP3.out 9 rfl
  have q3 : w3.cell? ⟨w.heap.size + 1, 9, none⟩ = some y9 := row_cell HQ3.out 9 rfl
  clear hb C HB2 HP2 HQ2 p2 q2
  go_wp2_with fail
  have C := texts_any (A9.out.later HB3.out) (B9.out.later HB3.out) (Nat.le_trans (HTl.out _) (by omega)) (Nat.le_trans (HTl.out _) (by omega))
  rw [show decide (textP l nId = textP l nId) = true by simp] at C
  refine C.mono ?_
  rintro e w4 ⟨rfl, hb⟩
  have HB4 := hid (HB3.out.trans (hb.mono HB3.out.size))
  have HP4 : Hid (w4.heap[w.heap.size]? = some (.cells #[x0, x1, x2, x3, x4, x5, x6, x7, x8, x9] 27 (0, 0))) := by rw [Hid, hb.block _ (lt_of_some HP3.out)]; exact HP3.out
  have HQ4 : Hid (w4.heap[w.heap.size + 1]? = some (.cells #[y0, y1, y2, y3, y4, y5, y6, y7, y8, y9] 27 (0, 0))) := by rw [Hid, hb.block _ (lt_of_some HQ3.out)]; exact HQ3.out
  have p4 : w4.cell? ⟨w.heap.size, 2, none⟩ = some x2 := row_cell HP4.out 2 rfl
  have q4 : w4.cell? ⟨w.heap.size + 1, 2, none⟩ = some y2 := row_cell HQ4.out 2 rfl
  clear hb C HB3 HP3 HQ3 p3 q3
  go_wp2_with fail
  have C := people_any (A2.out.later HB4.out) (B2.out.later HB4.out) (Nat.le_trans (HAl.out _) (by omega)) (Nat.le_trans (HAl.out _) (by omega))
  rw [show decide (addrP l nFrom = addrP l nFrom) = true by simp] at C
  refine C.mono ?_
  rintro e w5 ⟨rfl, hb⟩
  have HB5 := hid (HB4.out.trans (hb.mono HB4.out.size))
  have HP5 : Hid (w5.heap[w.heap.size]? = some (.cells #[x0, x1, x2, x3, x4, x5, x6, x7, x8, x9] 27 (0, 0))) := by rw [Hid, hb.block _ (lt_of_some HP4.out)]; exact HP4.out
  have HQ5 : Hid (w5.heap[w.heap.size + 1]? = some (.cells #[y0, y1, y2, y3, y4, y5, y6, y7, y8, y9] 27 (0, 0))) := by rw [Hid, hb.block _ (lt_of_some HQ4.out)]; exact HQ4.out
  have p5 : w5.cell? ⟨w.heap.size, 3, none⟩ = some x3 := row_cell HP5.out 3 rfl
  have q5 : w5.cell? ⟨w.heap.size + 1, 3, none⟩ = some y3 := row_cell HQ5.out 3 rfl
  clear hb C HB4 HP4 HQ4 p4 q4
  go_wp2_with fail
  have C := people_any (A3.out.later HB5.out) (B3.out.later HB5.out) (Nat.le_trans (either_len (HAl.out _) (HAl.out _)) (by omega)) (Nat.le_trans (either_len (HAl.out _) (HAl.out _)) (by omega))
  rw [show decide (eitherP (addrP l nSend) (addrP l nFrom) = eitherP (addrP l nSend) (addrP l nFrom)) = true by simp] at C
  refine C.mono ?_
  rintro e w6 ⟨rfl, hb⟩
  have HB6 := hid (HB5.out.trans (hb.mono HB5.out.size))
  have HP6 : Hid (w6.heap[w.heap.size]? = some (.cells #[x0, x1, x2, x3, x4, x5, x6, x7, x8, x9] 27 (0, 0))) := by rw [Hid, hb.block _ (lt_of_some HP5.out)]; exact HP5.out
  have HQ6 : Hid (w6.heap[w.heap.size + 1]? = some (.cells #[y0, y1, y2, y3, y4, y5, y6, y7, y8, y9] 27 (0, 0))) := by rw [Hid, hb.block _ (lt_of_some HQ5.out)]; exact HQ5.out
  have p6 : w6.cell? ⟨w.heap.size, 4, none⟩ = some x4 := row_cell HP6.out 4 rfl
  have q6 : w6.cell? ⟨w.heap.size + 1, 4, none⟩ = some y4 := row_cell HQ6.out 4 rfl
  clear hb C HB5 HP5 HQ5 p5 q5
  go_wp2_with fail
  have C := people_any (A4.out.later HB6.out) (B4.out.later HB6.out) (Nat.le_trans (either_len (HAl.out _) (HAl.out _)) (by omega)) (Nat.le_trans (either_len (HAl.out _) (HAl.out _)) (by omega))
  rw [show decide (eitherP (addrP l nRepl) (addrP l nFrom) = eitherP (addrP l nRepl) (addrP l nFrom)) = true by simp] at C
  refine C.mono ?_
  rintro e w7 ⟨rfl, hb⟩
  have HB7 := hid (HB6.out.trans (hb.mono HB6.out.size))
  have HP7 : Hid (w7.heap[w.heap.size]? = some (.cells #[x0, x1, x2, x3, x4, x5, x6, x7, x8, x9] 27 (0, 0))) := by rw [Hid, hb.block _ (lt_of_some HP6.out)]; exact HP6.out
  have HQ7 : Hid (w7.heap[w.heap.size + 1]? = some (.cells #[y0, y1, y2, y3, y4, y5, y6, y7, y8, y9] 27 (0, 0))) := by rw [Hid, hb.block _ (lt_of_some HQ6.out)]; exact HQ6.out
  have p7 : w7.cell? ⟨w.heap.size, 5, none⟩ = some x5 := row_cell HP7.out 5 rfl
  have q7 : w7.cell? ⟨w.heap.size + 1, 5, none⟩ = some y5 := row_cell HQ7.out 5 rfl
  clear hb C HB6 HP6 HQ6 p6 q6
  go_wp2_with fail
  have C := people_any (A5.out.later HB7.out) (B5.out.later HB7.out) (Nat.le_trans (HAl.out _) (by omega)) (Nat.le_trans (HAl.out _) (by omega))
  rw [show decide (addrP l nTo = addrP l nTo) = true by simp] at C
  refine C.mono ?_
  rintro e w8 ⟨rfl, hb⟩
  have HB8 := hid (HB7.out.trans (hb.mono HB7.out.size))
  have HP8 : Hid (w8.heap[w.heap.size]? = some (.cells #[x0, x1, x2, x3, x4, x5, x6, x7, x8, x9] 27 (0, 0))) := by rw [Hid, hb.block _ (lt_of_some HP7.out)]; exact HP7.out
  have HQ8 : Hid (w8.heap[w.heap.size + 1]? = some (.cells #[y0, y1, y2, y3, y4, y5, y6, y7, y8, y9] 27 (0, 0))) := by rw [Hid, hb.block _ (lt_of_some HQ7.out)]; exact HQ7.out
  have p8 : w8.cell? ⟨w.heap.size, 6, none⟩ = some x6 := row_cell HP8.out 6 rfl
  have q8 : w8.cell? ⟨w.heap.size + 1, 6, none⟩ = some y6 := row_cell HQ8.out 6 rfl
  clear hb C HB7 HP7 HQ7 p7 q7
  go_wp2_with fail
  have C := people_any (A6.out.later HB8.out) (B6.out.later HB8.out) (Nat.le_trans (HAl.out _) (by omega)) (Nat.le_trans (HAl.out _) (by omega))
  rw [show decide (addrP l nCc = addrP l nCc) = true by simp] at C
  refine C.mono ?_
  rintro e w9 ⟨rfl, hb⟩
  have HB9 := hid (HB8.out.trans (hb.mono HB8.out.size))
  have HP9 : Hid (w9.heap[w.heap.size]? = some (.cells #[x0, x1, x2, x3, x4, x5, x6, x7, x8, x9] 27 (0, 0))) := by rw [Hid, hb.block _ (lt_of_some HP8.out)]; exact HP8.out
  have HQ9 : Hid (w9.heap[w.heap.size + 1]? = some (.cells #[y0, y1, y2, y3, y4, y5, y6, y7, y8, y9] 27 (0, 0))) := by rw [Hid, hb.block _ (lt_of_some HQ8.out)]; exact HQ8.out
  have p9 : w9.cell? ⟨w.heap.size, 7, none⟩ = some x7 := row_cell HP9.out 7 rfl
  have q9 : w9.cell? ⟨w.heap.size + 1, 7, none⟩ = some y7 := row_cell HQ9.out 7 rfl
  clear hb C HB8 HP8 HQ8 p8 q8
  go_wp2_with fail
  have C := people_any (A7.out.later HB9.out) (B7.out.later HB9.out) (Nat.le_trans (HAl.out _) (by omega)) (Nat.le_trans (HAl.out _) (by omega))
  rw [show decide (addrP l nBcc = addrP l nBcc) = true by simp] at C
  refine C.mono ?_
  rintro e w10 ⟨rfl, hb⟩
  have HB10 := hid (HB9.out.trans (hb.mono HB9.out.size))
  have HP10 : Hid (w10.heap[w.heap.size]? = some (.cells #[x0, x1, x2, x3, x4, x5, x6, x7, x8, x9] 27 (0, 0))) := by rw [Hid, hb.block _ (lt_of_some HP9.out)]; exact HP9.out
  have HQ10 : Hid (w10.heap[w.heap.size + 1]? = some (.cells #[y0, y1, y2, y3, y4, y5, y6, y7, y8, y9] 27 (0, 0))) := by rw [Hid, hb.block _ (lt_of_some HQ9.out)]; exact HQ9.out
  clear hb C HB9 HP9 HQ9 p9 q9
  go_wp2_with fail
  go_ret
  exact ⟨rfl, HB10.out⟩
end Go.Proofs.YtemgpghjolpneaaGreatDoor
