/- What this text holds: a match, of what its key answers. -/
import Derived.Test.YtaniljfjmbifnaaGreatDoorK16
namespace Go.Proofs.YtaniljfjmbifnaaGreatDoor.H
open Go.RowKit
set_option linter.unusedVariables false
set_option linter.unusedSimpArgs false

set_option maxRecDepth 100000 in
set_option maxHeartbeats 4000000 in
theorem match2_any {w : World} (op t f : Bs) (n : Int) (a : Option Addr) (p c : Nat) (d : Option Addr) (q g : Nat) (uid : Int) (fa : Option Addr) (fn fc : Nat) (d1 d2 d3 d4 d5 d6 d7 : Int) (text : Bs) (size id seq most mu : Int) (z : Bool)
    (C : ∀ w1 b, w.heap.size ≤ b → LkAt w1 b ⟨uid, (fa, fn, fc), d1, d2, d3, d4, d5, d6, d7, text, size, id, seq, most, mu, false, (none, 0, 0), 0, false⟩ → Below w.heap.size w w1 →
      Calls Tryz.prog 23 #[.pointer (some ⟨b, 0, none⟩), .agg #[.string (str op), .string (str t), .string (str f), .int .i64 n, .slice a p c, .slice d q g]] w1 fun e w' => Seen2 w' b ⟨uid, (fa, fn, fc), d1, d2, d3, d4, d5, d6, d7, text, size, id, seq, most, mu, false, (none, 0, 0), 0, false⟩ ∧ e = .returned (.bool z) ∧ Kept [b] w1 w') :
    Calls Tryz.prog 11 #[.agg #[.string (str op), .string (str t), .string (str f), .int .i64 n, .slice a p c, .slice d q g], .agg #[.int .i64 uid, .slice fa fn fc, .int .i64 d1, .int .i64 d2, .int .i64 d3, .int .i64 d4, .int .i64 d5, .int .i64 d6, .int .i64 d7, .string (str text), .int .i64 size, .int .i64 id], .int .i64 seq, .int .i64 most, .int .i64 mu] w fun e w' => e = .returned (.bool z) ∧ Below w.heap.size w w' := by
  obtain ⟨wa, hwa⟩ : ∃ wa, w.alloc (.cells #[.string (str op), .string (str t), .string (str f), .int .i64 n, .slice a p c, .slice d q g] 28) = wa := ⟨_, rfl⟩
  have ba : Below w.heap.size w wa := by rw [← hwa]; exact (Below.refl _ _).alloc (Nat.le_refl _) _
  have sa : wa.heap.size = w.heap.size + 1 := by rw [← hwa]; simp
  have hka : wa.heap[w.heap.size]? = some (.cells #[.string (str op), .string (str t), .string (str f), .int .i64 n, .slice a p c, .slice d q g] 28 (0, 0)) := by rw [← hwa]; exact heap_alloc_new _ _
  obtain ⟨wb, hwb⟩ : ∃ wb, wa.alloc (.cells #[.int .i64 uid, .slice fa fn fc, .int .i64 d1, .int .i64 d2, .int .i64 d3, .int .i64 d4, .int .i64 d5, .int .i64 d6, .int .i64 d7, .string (str text), .int .i64 size, .int .i64 id] 33) = wb := ⟨_, rfl⟩
  have bb : Below wa.heap.size wa wb := by rw [← hwb]; exact (Below.refl _ _).alloc (Nat.le_refl _) _
  have sb : wb.heap.size = wa.heap.size + 1 := by rw [← hwb]; simp
  have hmb : wb.heap[wa.heap.size]? = some (.cells #[.int .i64 uid, .slice fa fn fc, .int .i64 d1, .int .i64 d2, .int .i64 d3, .int .i64 d4, .int .i64 d5, .int .i64 d6, .int .i64 d7, .string (str text), .int .i64 size, .int .i64 id] 33 (0, 0)) := by rw [← hwb]; exact heap_alloc_new _ _
  obtain ⟨wz, hwz⟩ : ∃ wz, wb.alloc (.cells #[.int .i64 0, .slice none 0 0, .int .i64 0, .int .i64 0, .int .i64 0, .int .i64 0, .int .i64 0, .int .i64 0, .int .i64 0, .string ⟨#[]⟩, .int .i64 0, .int .i64 0, .int .i64 0, .int .i64 0, .int .i64 0, .bool false, .slice none 0 0, .int .i64 0, .bool false] 48) = wz := ⟨_, rfl⟩
  have bz : Below wb.heap.size wb wz := by rw [← hwz]; exact (Below.refl _ _).alloc (Nat.le_refl _) _
  have hz1 : LkAt wz wb.heap.size zLk := by rw [← hwz]; exact LkAt.new wb zLk
  have hmz : wz.heap[wa.heap.size]? = some (.cells #[.int .i64 uid, .slice fa fn fc, .int .i64 d1, .int .i64 d2, .int .i64 d3, .int .i64 d4, .int .i64 d5, .int .i64 d6, .int .i64 d7, .string (str text), .int .i64 size, .int .i64 id] 33 (0, 0)) := (bz.block _ (by omega)).trans hmb
  have hkz : wz.heap[w.heap.size]? = some (.cells #[.string (str op), .string (str t), .string (str f), .int .i64 n, .slice a p c, .slice d q g] 28 (0, 0)) := ((bz.block _ (by omega)).trans (bb.block _ (by omega))).trans hka
  obtain ⟨wc, hwc⟩ : ∃ wc, rowK wz wb.heap.size ⟨uid, (fa, fn, fc), d1, d2, d3, d4, d5, d6, d7, text, size, id, seq, most, mu, false, (none, 0, 0), 0, false⟩ = wc := ⟨_, rfl⟩
  have hl1 : LkAt wc wb.heap.size ⟨uid, (fa, fn, fc), d1, d2, d3, d4, d5, d6, d7, text, size, id, seq, most, mu, false, (none, 0, 0), 0, false⟩ := by rw [← hwc]; exact rowK_is hz1 _
  have kc := rowK_self wz wb.heap.size ⟨uid, (fa, fn, fc), d1, d2, d3, d4, d5, d6, d7, text, size, id, seq, most, mu, false, (none, 0, 0), 0, false⟩
  rw [hwc] at kc
  have hz2 := hz1.lt
  have hkc : wc.heap[w.heap.size]? = some (.cells #[.string (str op), .string (str t), .string (str f), .int .i64 n, .slice a p c, .slice d q g] 28 (0, 0)) := (kc.block _ (by omega) (by simp; omega)).trans hkz
  have hb1 : Below w.heap.size w wc := ((ba.trans (bb.mono (by omega))).trans (bz.mono (by omega))).trans (kc.below (by simp; omega) (by omega))
  have m0 : wb.cell? ⟨wa.heap.size, 0, none⟩ = some (.int .i64 uid) := cell_of hmb rfl
  have m1 : wb.cell? ⟨wa.heap.size, 1, none⟩ = some (.slice fa fn fc) := cell_of hmb rfl
  have m2 : wb.cell? ⟨wa.heap.size, 2, none⟩ = some (.int .i64 d1) := cell_of hmb rfl
  have m3 : wb.cell? ⟨wa.heap.size, 3, none⟩ = some (.int .i64 d2) := cell_of hmb rfl
  have m4 : wb.cell? ⟨wa.heap.size, 4, none⟩ = some (.int .i64 d3) := cell_of hmb rfl
  have m5 : wb.cell? ⟨wa.heap.size, 5, none⟩ = some (.int .i64 d4) := cell_of hmb rfl
  have m6 : wb.cell? ⟨wa.heap.size, 6, none⟩ = some (.int .i64 d5) := cell_of hmb rfl
  have m7 : wb.cell? ⟨wa.heap.size, 7, none⟩ = some (.int .i64 d6) := cell_of hmb rfl
  have m8 : wb.cell? ⟨wa.heap.size, 8, none⟩ = some (.int .i64 d7) := cell_of hmb rfl
  have m9 : wb.cell? ⟨wa.heap.size, 9, none⟩ = some (.string (str text)) := cell_of hmb rfl
  have m10 : wb.cell? ⟨wa.heap.size, 10, none⟩ = some (.int .i64 size) := cell_of hmb rfl
  have m11 : wb.cell? ⟨wa.heap.size, 11, none⟩ = some (.int .i64 id) := cell_of hmb rfl
  have mz0 : wz.cell? ⟨wa.heap.size, 0, none⟩ = some (.int .i64 uid) := cell_of hmz rfl
  have mz1 : wz.cell? ⟨wa.heap.size, 1, none⟩ = some (.slice fa fn fc) := cell_of hmz rfl
  have mz2 : wz.cell? ⟨wa.heap.size, 2, none⟩ = some (.int .i64 d1) := cell_of hmz rfl
  have mz3 : wz.cell? ⟨wa.heap.size, 3, none⟩ = some (.int .i64 d2) := cell_of hmz rfl
  have mz4 : wz.cell? ⟨wa.heap.size, 4, none⟩ = some (.int .i64 d3) := cell_of hmz rfl
  have mz5 : wz.cell? ⟨wa.heap.size, 5, none⟩ = some (.int .i64 d4) := cell_of hmz rfl
  have mz6 : wz.cell? ⟨wa.heap.size, 6, none⟩ = some (.int .i64 d5) := cell_of hmz rfl
  have mz7 : wz.cell? ⟨wa.heap.size, 7, none⟩ = some (.int .i64 d6) := cell_of hmz rfl
  have mz8 : wz.cell? ⟨wa.heap.size, 8, none⟩ = some (.int .i64 d7) := cell_of hmz rfl
  have mz9 : wz.cell? ⟨wa.heap.size, 9, none⟩ = some (.string (str text)) := cell_of hmz rfl
  have mz10 : wz.cell? ⟨wa.heap.size, 10, none⟩ = some (.int .i64 size) := cell_of hmz rfl
  have mz11 : wz.cell? ⟨wa.heap.size, 11, none⟩ = some (.int .i64 id) := cell_of hmz rfl
  have k0 : wc.cell? ⟨w.heap.size, 0, none⟩ = some (.string (str op)) := cell_of hkc rfl
  have k1 : wc.cell? ⟨w.heap.size, 1, none⟩ = some (.string (str t)) := cell_of hkc rfl
  have k2 : wc.cell? ⟨w.heap.size, 2, none⟩ = some (.string (str f)) := cell_of hkc rfl
  have k3 : wc.cell? ⟨w.heap.size, 3, none⟩ = some (.int .i64 n) := cell_of hkc rfl
  have k4 : wc.cell? ⟨w.heap.size, 4, none⟩ = some (.slice a p c) := cell_of hkc rfl
  have k5 : wc.cell? ⟨w.heap.size, 5, none⟩ = some (.slice d q g) := cell_of hkc rfl
  have D := C wc wb.heap.size (by omega) hl1 hb1
  have HB1 := hid hb1
  have HS1 : Hid (w.heap.size ≤ wb.heap.size) := by unfold Hid; omega
  have hF := fldk wb.heap.size
  have f7 := fun w => (hF w).2.2.2.2.2.2.2.1
  have HZ1 := hid hz1
  clear C hF hl1 hkc hmb hka ba bb bz sa sb hb1 hmz hkz kc hz2 hz1
  go_enter Tryz.func11, Tryz.ntmps11
  go_wp2_with (refine wpList_store48 (L := ⟨uid, (fa, fn, fc), d1, d2, d3, d4, d5, d6, d7, text, size, id, seq, most, mu, false, (none, 0, 0), 0, false⟩) rfl rfl HZ1.out ?_)
  refine D.mono ?_
  rintro e w2 ⟨⟨rd, fs, hs, _⟩, rfl, hk⟩
  have l18 := hs.cell 18
  simp only [Lk.c, List.getElem?_cons_succ, List.getElem?_cons_zero] at l18
  have HB2 := hid (below_of_kept HB1.out hk HS1.out)
  clear hs hk D
  cases z
  · go_wp2_with fail
    go_ret
    exact ⟨rfl, HB2.out⟩
  · go_wp2_with fail
    go_ret
    exact ⟨rfl, HB2.out⟩
end Go.Proofs.YtaniljfjmbifnaaGreatDoor.H
