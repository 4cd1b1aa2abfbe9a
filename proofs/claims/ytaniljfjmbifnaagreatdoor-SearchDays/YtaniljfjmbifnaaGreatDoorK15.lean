/- What this text holds: keys that ask for days and lengths. -/
import Derived.Test.YtaniljfjmbifnaaGreatDoorK14
namespace Go.Proofs.YtaniljfjmbifnaaGreatDoor.H
open Go.RowKit
set_option linter.unusedVariables false
set_option linter.unusedSimpArgs false

/-- The message is as it was, but that its fields may have been read. -/
def Seen2 (w : World) (b : Nat) (L : Lk) : Prop := ∃ rd fs, LkAt w b { L with rd := rd, fs := fs } ∧ FsOk w { L with rd := rd, fs := fs }
theorem Seen.two {w : World} {b : Nat} {L : Lk} (h : Seen w b L) : Seen2 w b L := by
  obtain ⟨fs, h1, h2⟩ := h
  exact ⟨true, fs, h1, h2⟩
theorem Seen2.of {w : World} {b : Nat} {L : Lk} (h : LkAt w b L) (hf : FsOk w L) : Seen2 w b L := ⟨L.rd, L.fs, h, hf⟩
theorem fld33 (b : Nat) (w : World) : (Instr.fieldAt 33 (.pointer (some ⟨b, 0, none⟩)) 2).run Tryz.prog w = .ok (.pointer (some ⟨b, 2, none⟩)) w := by kernel_rfl
set_option maxRecDepth 100000 in
set_option maxHeartbeats 4000000 in
theorem larger_any {w : World} {b : Nat} {L : Lk} (he : Env w) (hb0 : 0 < b) (h : LkAt w b L) (hf : FsOk w L) (ht : L.text.length ≤ 1000000) (op t f : Bs) (n : Int) (a : Option Addr) (p c : Nat) (d : Option Addr) (q g : Nat) (hop : op = [76, 65, 82, 71, 69, 82]) :
    Calls Tryz.prog 23 #[.pointer (some ⟨b, 0, none⟩), .agg #[.string (str op), .string (str t), .string (str f), .int .i64 n, .slice a p c, .slice d q g]] w fun e w' => Seen2 w' b L ∧ e = .returned (.bool (decide (n < (L.text.length : Int)))) ∧ Kept [b] w w' := by
  have q0 : ((str op).toList == ([65, 76, 76] : Bs)) = false := by rw [toL, hop]; decide
  have q1 : ((str op).toList == ([65, 78, 83, 87, 69, 82, 69, 68] : Bs)) = false := by rw [toL, hop]; decide
  have q2 : ((str op).toList == ([68, 69, 76, 69, 84, 69, 68] : Bs)) = false := by rw [toL, hop]; decide
  have q3 : ((str op).toList == ([68, 82, 65, 70, 84] : Bs)) = false := by rw [toL, hop]; decide
  have q4 : ((str op).toList == ([70, 76, 65, 71, 71, 69, 68] : Bs)) = false := by rw [toL, hop]; decide
  have q5 : ((str op).toList == ([83, 69, 69, 78] : Bs)) = false := by rw [toL, hop]; decide
  have q6 : ((str op).toList == ([85, 78, 65, 78, 83, 87, 69, 82, 69, 68] : Bs)) = false := by rw [toL, hop]; decide
  have q7 : ((str op).toList == ([85, 78, 68, 69, 76, 69, 84, 69, 68] : Bs)) = false := by rw [toL, hop]; decide
  have q8 : ((str op).toList == ([85, 78, 68, 82, 65, 70, 84] : Bs)) = false := by rw [toL, hop]; decide
  have q9 : ((str op).toList == ([85, 78, 70, 76, 65, 71, 71, 69, 68] : Bs)) = false := by rw [toL, hop]; decide
  have q10 : ((str op).toList == ([85, 78, 83, 69, 69, 78] : Bs)) = false := by rw [toL, hop]; decide
  have q11 : ((str op).toList == ([75, 69, 89, 87, 79, 82, 68] : Bs)) = false := by rw [toL, hop]; decide
  have q12 : ((str op).toList == ([85, 78, 75, 69, 89, 87, 79, 82, 68] : Bs)) = false := by rw [toL, hop]; decide
  have q13 : ((str op).toList == ([66, 67, 67] : Bs)) = false := by rw [toL, hop]; decide
  have q14 : ((str op).toList == ([67, 67] : Bs)) = false := by rw [toL, hop]; decide
  have q15 : ((str op).toList == ([70, 82, 79, 77] : Bs)) = false := by rw [toL, hop]; decide
  have q16 : ((str op).toList == ([83, 85, 66, 74, 69, 67, 84] : Bs)) = false := by rw [toL, hop]; decide
  have q17 : ((str op).toList == ([84, 79] : Bs)) = false := by rw [toL, hop]; decide
  have q18 : ((str op).toList == ([72, 69, 65, 68, 69, 82] : Bs)) = false := by rw [toL, hop]; decide
  have q19 : ((str op).toList == ([66, 79, 68, 89] : Bs)) = false := by rw [toL, hop]; decide
  have q20 : ((str op).toList == ([84, 69, 88, 84] : Bs)) = false := by rw [toL, hop]; decide
  have q21 : ((str op).toList == ([66, 69, 70, 79, 82, 69] : Bs)) = false := by rw [toL, hop]; decide
  have q22 : ((str op).toList == ([79, 78] : Bs)) = false := by rw [toL, hop]; decide
  have q23 : ((str op).toList == ([83, 73, 78, 67, 69] : Bs)) = false := by rw [toL, hop]; decide
  have q24 : ((str op).toList == ([83, 69, 78, 84, 66, 69, 70, 79, 82, 69] : Bs)) = false := by rw [toL, hop]; decide
  have q25 : ((str op).toList == ([83, 69, 78, 84, 79, 78] : Bs)) = false := by rw [toL, hop]; decide
  have q26 : ((str op).toList == ([83, 69, 78, 84, 83, 73, 78, 67, 69] : Bs)) = false := by rw [toL, hop]; decide
  have q99 : ((str op).toList == ([76, 65, 82, 71, 69, 82] : Bs)) = true := by rw [toL, hop]; decide
  have ha : Below w.heap.size w (w.alloc (.cells #[.string (str op), .string (str t), .string (str f), .int .i64 n, .slice a p c, .slice d q g] 28)) := (Below.refl _ _).alloc (Nat.le_refl _) _
  obtain ⟨w1, hw1⟩ : ∃ w1, w.alloc (.cells #[.string (str op), .string (str t), .string (str f), .int .i64 n, .slice a p c, .slice d q g] 28) = w1 := ⟨_, rfl⟩
  have HKy : Hid (KyAt w1 w.heap.size ⟨op, t, f, n, (a, p, c), (d, q, g)⟩) := by rw [← hw1]; exact KyAt.new w ⟨op, t, f, n, (a, p, c), (d, q, g)⟩
  rw [hw1] at ha
  have HE := hid (he.later ha)
  have HAt := hid (h.later ha)
  have HFs : Hid (FsOk w1 L) := fun hr => (hf hr).later ha
  have HB := hid ha
  have HLt := hid h.lt
  have HT := hid ht
  have k0 := HKy.out.cell 0
  have k3 := HKy.out.cell 3
  have l9 := HAt.out.cell 9
  have l2 := HAt.out.cell 2
  have l3 := HAt.out.cell 3
  have l4 := HAt.out.cell 4
  have l5 := HAt.out.cell 5
  have l6 := HAt.out.cell 6
  have l7 := HAt.out.cell 7
  have l8 := HAt.out.cell 8
  simp only [Ky.c, Lk.c, List.getElem?_cons_succ, List.getElem?_cons_zero] at k0 k3 l2 l3 l4 l5 l6 l7 l8 l9
  have hF := fldk b
  have f0 := fun w => (hF w).1
  have g3 := fun w => (hF w).2.2.2.2.2.2.2.2
  have g2 := fld33 b
  have htz := str_size L.text
  clear he h hf ha hF hop
  go_enter Tryz.func23, Tryz.ntmps23
  go_wp2_with fail
  clear hw1
  go_quiet (fail)
  go_wp2_with fail
  go_ret
  exact ⟨Seen2.of (HAt.out.later (drewN_below _ _ _)) (fun hr => (HFs.out hr).later (drewN_below _ _ _)), by first | rfl | simp, kept_t (Kept.ofBelow HB.out [b]) (Kept.ofBelow (drewN_below _ _ _) [b])⟩
set_option maxRecDepth 100000 in
set_option maxHeartbeats 4000000 in
theorem smaller_any {w : World} {b : Nat} {L : Lk} (he : Env w) (hb0 : 0 < b) (h : LkAt w b L) (hf : FsOk w L) (ht : L.text.length ≤ 1000000) (op t f : Bs) (n : Int) (a : Option Addr) (p c : Nat) (d : Option Addr) (q g : Nat) (hop : op = [83, 77, 65, 76, 76, 69, 82]) :
    Calls Tryz.prog 23 #[.pointer (some ⟨b, 0, none⟩), .agg #[.string (str op), .string (str t), .string (str f), .int .i64 n, .slice a p c, .slice d q g]] w fun e w' => Seen2 w' b L ∧ e = .returned (.bool (decide ((L.text.length : Int) < n))) ∧ Kept [b] w w' := by
  have q0 : ((str op).toList == ([65, 76, 76] : Bs)) = false := by rw [toL, hop]; decide
  have q1 : ((str op).toList == ([65, 78, 83, 87, 69, 82, 69, 68] : Bs)) = false := by rw [toL, hop]; decide
  have q2 : ((str op).toList == ([68, 69, 76, 69, 84, 69, 68] : Bs)) = false := by rw [toL, hop]; decide
  have q3 : ((str op).toList == ([68, 82, 65, 70, 84] : Bs)) = false := by rw [toL, hop]; decide
  have q4 : ((str op).toList == ([70, 76, 65, 71, 71, 69, 68] : Bs)) = false := by rw [toL, hop]; decide
  have q5 : ((str op).toList == ([83, 69, 69, 78] : Bs)) = false := by rw [toL, hop]; decide
  have q6 : ((str op).toList == ([85, 78, 65, 78, 83, 87, 69, 82, 69, 68] : Bs)) = false := by rw [toL, hop]; decide
  have q7 : ((str op).toList == ([85, 78, 68, 69, 76, 69, 84, 69, 68] : Bs)) = false := by rw [toL, hop]; decide
  have q8 : ((str op).toList == ([85, 78, 68, 82, 65, 70, 84] : Bs)) = false := by rw [toL, hop]; decide
  have q9 : ((str op).toList == ([85, 78, 70, 76, 65, 71, 71, 69, 68] : Bs)) = false := by rw [toL, hop]; decide
  have q10 : ((str op).toList == ([85, 78, 83, 69, 69, 78] : Bs)) = false := by rw [toL, hop]; decide
  have q11 : ((str op).toList == ([75, 69, 89, 87, 79, 82, 68] : Bs)) = false := by rw [toL, hop]; decide
  have q12 : ((str op).toList == ([85, 78, 75, 69, 89, 87, 79, 82, 68] : Bs)) = false := by rw [toL, hop]; decide
  have q13 : ((str op).toList == ([66, 67, 67] : Bs)) = false := by rw [toL, hop]; decide
  have q14 : ((str op).toList == ([67, 67] : Bs)) = false := by rw [toL, hop]; decide
  have q15 : ((str op).toList == ([70, 82, 79, 77] : Bs)) = false := by rw [toL, hop]; decide
  have q16 : ((str op).toList == ([83, 85, 66, 74, 69, 67, 84] : Bs)) = false := by rw [toL, hop]; decide
  have q17 : ((str op).toList == ([84, 79] : Bs)) = false := by rw [toL, hop]; decide
  have q18 : ((str op).toList == ([72, 69, 65, 68, 69, 82] : Bs)) = false := by rw [toL, hop]; decide
  have q19 : ((str op).toList == ([66, 79, 68, 89] : Bs)) = false := by rw [toL, hop]; decide
  have q20 : ((str op).toList == ([84, 69, 88, 84] : Bs)) = false := by rw [toL, hop]; decide
  have q21 : ((str op).toList == ([66, 69, 70, 79, 82, 69] : Bs)) = false := by rw [toL, hop]; decide
  have q22 : ((str op).toList == ([79, 78] : Bs)) = false := by rw [toL, hop]; decide
  have q23 : ((str op).toList == ([83, 73, 78, 67, 69] : Bs)) = false := by rw [toL, hop]; decide
  have q24 : ((str op).toList == ([83, 69, 78, 84, 66, 69, 70, 79, 82, 69] : Bs)) = false := by rw [toL, hop]; decide
  have q25 : ((str op).toList == ([83, 69, 78, 84, 79, 78] : Bs)) = false := by rw [toL, hop]; decide
  have q26 : ((str op).toList == ([83, 69, 78, 84, 83, 73, 78, 67, 69] : Bs)) = false := by rw [toL, hop]; decide
  have q27 : ((str op).toList == ([76, 65, 82, 71, 69, 82] : Bs)) = false := by rw [toL, hop]; decide
  have q99 : ((str op).toList == ([83, 77, 65, 76, 76, 69, 82] : Bs)) = true := by rw [toL, hop]; decide
  have ha : Below w.heap.size w (w.alloc (.cells #[.string (str op), .string (str t), .string (str f), .int .i64 n, .slice a p c, .slice d q g] 28)) := (Below.refl _ _).alloc (Nat.le_refl _) _
  obtain ⟨w1, hw1⟩ : ∃ w1, w.alloc (.cells #[.string (str op), .string (str t), .string (str f), .int .i64 n, .slice a p c, .slice d q g] 28) = w1 := ⟨_, rfl⟩
  have HKy : Hid (KyAt w1 w.heap.size ⟨op, t, f, n, (a, p, c), (d, q, g)⟩) := by rw [← hw1]; exact KyAt.new w ⟨op, t, f, n, (a, p, c), (d, q, g)⟩
  rw [hw1] at ha
  have HE := hid (he.later ha)
  have HAt := hid (h.later ha)
  have HFs : Hid (FsOk w1 L) := fun hr => (hf hr).later ha
  have HB := hid ha
  have HLt := hid h.lt
  have HT := hid ht
  have k0 := HKy.out.cell 0
  have k3 := HKy.out.cell 3
  have l9 := HAt.out.cell 9
  have l2 := HAt.out.cell 2
  have l3 := HAt.out.cell 3
  have l4 := HAt.out.cell 4
  have l5 := HAt.out.cell 5
  have l6 := HAt.out.cell 6
  have l7 := HAt.out.cell 7
  have l8 := HAt.out.cell 8
  simp only [Ky.c, Lk.c, List.getElem?_cons_succ, List.getElem?_cons_zero] at k0 k3 l2 l3 l4 l5 l6 l7 l8 l9
  have hF := fldk b
  have f0 := fun w => (hF w).1
  have g3 := fun w => (hF w).2.2.2.2.2.2.2.2
  have g2 := fld33 b
  have htz := str_size L.text
  clear he h hf ha hF hop
  go_enter Tryz.func23, Tryz.ntmps23
  go_wp2_with fail
  clear hw1
  go_quiet (fail)
  go_wp2_with fail
  go_ret
  exact ⟨Seen2.of (HAt.out.later (drewN_below _ _ _)) (fun hr => (HFs.out hr).later (drewN_below _ _ _)), by first | rfl | simp, kept_t (Kept.ofBelow HB.out [b]) (Kept.ofBelow (drewN_below _ _ _) [b])⟩
set_option maxRecDepth 100000 in
set_option maxHeartbeats 4000000 in
theorem before_any {w : World} {b : Nat} {L : Lk} (he : Env w) (hb0 : 0 < b) (h : LkAt w b L) (hf : FsOk w L) (ht : L.text.length ≤ 1000000) (op t f : Bs) (n : Int) (a : Option Addr) (p c : Nat) (d : Option Addr) (q g : Nat) (hop : op = [66, 69, 70, 79, 82, 69]) :
    Calls Tryz.prog 23 #[.pointer (some ⟨b, 0, none⟩), .agg #[.string (str op), .string (str t), .string (str f), .int .i64 n, .slice a p c, .slice d q g]] w fun e w' => Seen2 w' b L ∧ e = .returned (.bool (placedB op (D.daysV L.d1 L.d2 L.d3) n)) ∧ Kept [b] w w' := by
  have q0 : ((str op).toList == ([65, 76, 76] : Bs)) = false := by rw [toL, hop]; decide
  have q1 : ((str op).toList == ([65, 78, 83, 87, 69, 82, 69, 68] : Bs)) = false := by rw [toL, hop]; decide
  have q2 : ((str op).toList == ([68, 69, 76, 69, 84, 69, 68] : Bs)) = false := by rw [toL, hop]; decide
  have q3 : ((str op).toList == ([68, 82, 65, 70, 84] : Bs)) = false := by rw [toL, hop]; decide
  have q4 : ((str op).toList == ([70, 76, 65, 71, 71, 69, 68] : Bs)) = false := by rw [toL, hop]; decide
  have q5 : ((str op).toList == ([83, 69, 69, 78] : Bs)) = false := by rw [toL, hop]; decide
  have q6 : ((str op).toList == ([85, 78, 65, 78, 83, 87, 69, 82, 69, 68] : Bs)) = false := by rw [toL, hop]; decide
  have q7 : ((str op).toList == ([85, 78, 68, 69, 76, 69, 84, 69, 68] : Bs)) = false := by rw [toL, hop]; decide
  have q8 : ((str op).toList == ([85, 78, 68, 82, 65, 70, 84] : Bs)) = false := by rw [toL, hop]; decide
  have q9 : ((str op).toList == ([85, 78, 70, 76, 65, 71, 71, 69, 68] : Bs)) = false := by rw [toL, hop]; decide
  have q10 : ((str op).toList == ([85, 78, 83, 69, 69, 78] : Bs)) = false := by rw [toL, hop]; decide
  have q11 : ((str op).toList == ([75, 69, 89, 87, 79, 82, 68] : Bs)) = false := by rw [toL, hop]; decide
  have q12 : ((str op).toList == ([85, 78, 75, 69, 89, 87, 79, 82, 68] : Bs)) = false := by rw [toL, hop]; decide
  have q13 : ((str op).toList == ([66, 67, 67] : Bs)) = false := by rw [toL, hop]; decide
  have q14 : ((str op).toList == ([67, 67] : Bs)) = false := by rw [toL, hop]; decide
  have q15 : ((str op).toList == ([70, 82, 79, 77] : Bs)) = false := by rw [toL, hop]; decide
  have q16 : ((str op).toList == ([83, 85, 66, 74, 69, 67, 84] : Bs)) = false := by rw [toL, hop]; decide
  have q17 : ((str op).toList == ([84, 79] : Bs)) = false := by rw [toL, hop]; decide
  have q18 : ((str op).toList == ([72, 69, 65, 68, 69, 82] : Bs)) = false := by rw [toL, hop]; decide
  have q19 : ((str op).toList == ([66, 79, 68, 89] : Bs)) = false := by rw [toL, hop]; decide
  have q20 : ((str op).toList == ([84, 69, 88, 84] : Bs)) = false := by rw [toL, hop]; decide
  have q99 : ((str op).toList == ([66, 69, 70, 79, 82, 69] : Bs)) = true := by rw [toL, hop]; decide
  have ha : Below w.heap.size w (w.alloc (.cells #[.string (str op), .string (str t), .string (str f), .int .i64 n, .slice a p c, .slice d q g] 28)) := (Below.refl _ _).alloc (Nat.le_refl _) _
  obtain ⟨w1, hw1⟩ : ∃ w1, w.alloc (.cells #[.string (str op), .string (str t), .string (str f), .int .i64 n, .slice a p c, .slice d q g] 28) = w1 := ⟨_, rfl⟩
  have HKy : Hid (KyAt w1 w.heap.size ⟨op, t, f, n, (a, p, c), (d, q, g)⟩) := by rw [← hw1]; exact KyAt.new w ⟨op, t, f, n, (a, p, c), (d, q, g)⟩
  rw [hw1] at ha
  have HE := hid (he.later ha)
  have HAt := hid (h.later ha)
  have HFs : Hid (FsOk w1 L) := fun hr => (hf hr).later ha
  have HB := hid ha
  have HLt := hid h.lt
  have HT := hid ht
  have k0 := HKy.out.cell 0
  have k3 := HKy.out.cell 3
  have l9 := HAt.out.cell 9
  have l2 := HAt.out.cell 2
  have l3 := HAt.out.cell 3
  have l4 := HAt.out.cell 4
  have l5 := HAt.out.cell 5
  have l6 := HAt.out.cell 6
  have l7 := HAt.out.cell 7
  have l8 := HAt.out.cell 8
  simp only [Ky.c, Lk.c, List.getElem?_cons_succ, List.getElem?_cons_zero] at k0 k3 l2 l3 l4 l5 l6 l7 l8 l9
  have hF := fldk b
  have f0 := fun w => (hF w).1
  have g3 := fun w => (hF w).2.2.2.2.2.2.2.2
  have g2 := fld33 b
  have htz := str_size L.text
  clear he h hf ha hF hop
  go_enter Tryz.func23, Tryz.ntmps23
  go_wp2_with fail
  have qc : w1.cell? ⟨w.heap.size, 0, none⟩ = some (.string (str op)) ∧ w1.cell? ⟨w.heap.size, 3, none⟩ = some (.int .i64 n) ∧ w1.cell? ⟨b, 2, none⟩ = some (.int .i64 L.d1) ∧ w1.cell? ⟨b, 3, none⟩ = some (.int .i64 L.d2) ∧ w1.cell? ⟨b, 4, none⟩ = some (.int .i64 L.d3) ∧ w1.cell? ⟨b, 5, none⟩ = some (.int .i64 L.d4) ∧ w1.cell? ⟨b, 6, none⟩ = some (.int .i64 L.d5) ∧ w1.cell? ⟨b, 7, none⟩ = some (.int .i64 L.d6) ∧ w1.cell? ⟨b, 8, none⟩ = some (.int .i64 L.d7) := ⟨k0, k3, l2, l3, l4, l5, l6, l7, l8⟩
  have HQ : Hid (∀ w' : World, KyAt w' w.heap.size ⟨op, t, f, n, (a, p, c), (d, q, g)⟩ → LkAt w' b L → w'.cell? ⟨w.heap.size, 0, none⟩ = some (.string (str op)) ∧ w'.cell? ⟨w.heap.size, 3, none⟩ = some (.int .i64 n) ∧ w'.cell? ⟨b, 2, none⟩ = some (.int .i64 L.d1) ∧ w'.cell? ⟨b, 3, none⟩ = some (.int .i64 L.d2) ∧ w'.cell? ⟨b, 4, none⟩ = some (.int .i64 L.d3) ∧ w'.cell? ⟨b, 5, none⟩ = some (.int .i64 L.d4) ∧ w'.cell? ⟨b, 6, none⟩ = some (.int .i64 L.d5) ∧ w'.cell? ⟨b, 7, none⟩ = some (.int .i64 L.d6) ∧ w'.cell? ⟨b, 8, none⟩ = some (.int .i64 L.d7)) := by
    intro w' e1 e2
    have k0 := e1.cell 0
    have k3 := e1.cell 3
    have l2 := e2.cell 2
    have l3 := e2.cell 3
    have l4 := e2.cell 4
    have l5 := e2.cell 5
    have l6 := e2.cell 6
    have l7 := e2.cell 7
    have l8 := e2.cell 8
    simp only [Ky.c, Lk.c, List.getElem?_cons_succ, List.getElem?_cons_zero] at k0 k3 l2 l3 l4 l5 l6 l7 l8
    exact ⟨k0, k3, l2, l3, l4, l5, l6, l7, l8⟩
  clear hw1 k0 k3 l2 l3 l4 l5 l6 l7 l8 l9
  go_region_held3 (fun w' => w'.cell? ⟨w.heap.size, 0, none⟩ = some (.string (str op)) ∧ w'.cell? ⟨w.heap.size, 3, none⟩ = some (.int .i64 n) ∧ w'.cell? ⟨b, 2, none⟩ = some (.int .i64 L.d1) ∧ w'.cell? ⟨b, 3, none⟩ = some (.int .i64 L.d2) ∧ w'.cell? ⟨b, 4, none⟩ = some (.int .i64 L.d3) ∧ w'.cell? ⟨b, 5, none⟩ = some (.int .i64 L.d4) ∧ w'.cell? ⟨b, 6, none⟩ = some (.int .i64 L.d5) ∧ w'.cell? ⟨b, 7, none⟩ = some (.int .i64 L.d6) ∧ w'.cell? ⟨b, 8, none⟩ = some (.int .i64 L.d7)) (first | exact qc | go_keep) (first
    | (go_at_call 41; refine (number_any _ _ _ _ _ _ _ _).mono ?_; rintro e wk ⟨rfl, hb⟩; have HBk : Below w1.heap.size w1 wk := Below.trans (by repeat (first | exact Below.refl _ _ | refine Below.drew ?_)) hb; have qc := HQ.out wk (HKy.out.later HBk) (HAt.out.later HBk); clear hb)
    | (go_at_call 40; refine (placed_any op _ _ _).mono ?_; rintro e w5 ⟨rfl, hw5⟩; have HB5 : Below w1.heap.size w1 w5 := (by rw [hw5]; repeat (first | exact HBk | refine Below.drew ?_)); have qc := HQ.out w5 (HKy.out.later HB5) (HAt.out.later HB5); clear hw5))
  go_wp2_with fail
  go_ret
  exact ⟨Seen2.of (HAt.out.later HB5) (fun hr => (HFs.out hr).later HB5), rfl, kept_t (Kept.ofBelow HB.out [b]) (Kept.ofBelow HB5 [b])⟩
set_option maxRecDepth 100000 in
set_option maxHeartbeats 4000000 in
theorem on_any {w : World} {b : Nat} {L : Lk} (he : Env w) (hb0 : 0 < b) (h : LkAt w b L) (hf : FsOk w L) (ht : L.text.length ≤ 1000000) (op t f : Bs) (n : Int) (a : Option Addr) (p c : Nat) (d : Option Addr) (q g : Nat) (hop : op = [79, 78]) :
    Calls Tryz.prog 23 #[.pointer (some ⟨b, 0, none⟩), .agg #[.string (str op), .string (str t), .string (str f), .int .i64 n, .slice a p c, .slice d q g]] w fun e w' => Seen2 w' b L ∧ e = .returned (.bool (placedB op (D.daysV L.d1 L.d2 L.d3) n)) ∧ Kept [b] w w' := by
  have q0 : ((str op).toList == ([65, 76, 76] : Bs)) = false := by rw [toL, hop]; decide
  have q1 : ((str op).toList == ([65, 78, 83, 87, 69, 82, 69, 68] : Bs)) = false := by rw [toL, hop]; decide
  have q2 : ((str op).toList == ([68, 69, 76, 69, 84, 69, 68] : Bs)) = false := by rw [toL, hop]; decide
  have q3 : ((str op).toList == ([68, 82, 65, 70, 84] : Bs)) = false := by rw [toL, hop]; decide
  have q4 : ((str op).toList == ([70, 76, 65, 71, 71, 69, 68] : Bs)) = false := by rw [toL, hop]; decide
  have q5 : ((str op).toList == ([83, 69, 69, 78] : Bs)) = false := by rw [toL, hop]; decide
  have q6 : ((str op).toList == ([85, 78, 65, 78, 83, 87, 69, 82, 69, 68] : Bs)) = false := by rw [toL, hop]; decide
  have q7 : ((str op).toList == ([85, 78, 68, 69, 76, 69, 84, 69, 68] : Bs)) = false := by rw [toL, hop]; decide
  have q8 : ((str op).toList == ([85, 78, 68, 82, 65, 70, 84] : Bs)) = false := by rw [toL, hop]; decide
  have q9 : ((str op).toList == ([85, 78, 70, 76, 65, 71, 71, 69, 68] : Bs)) = false := by rw [toL, hop]; decide
  have q10 : ((str op).toList == ([85, 78, 83, 69, 69, 78] : Bs)) = false := by rw [toL, hop]; decide
  have q11 : ((str op).toList == ([75, 69, 89, 87, 79, 82, 68] : Bs)) = false := by rw [toL, hop]; decide
  have q12 : ((str op).toList == ([85, 78, 75, 69, 89, 87, 79, 82, 68] : Bs)) = false := by rw [toL, hop]; decide
  have q13 : ((str op).toList == ([66, 67, 67] : Bs)) = false := by rw [toL, hop]; decide
  have q14 : ((str op).toList == ([67, 67] : Bs)) = false := by rw [toL, hop]; decide
  have q15 : ((str op).toList == ([70, 82, 79, 77] : Bs)) = false := by rw [toL, hop]; decide
  have q16 : ((str op).toList == ([83, 85, 66, 74, 69, 67, 84] : Bs)) = false := by rw [toL, hop]; decide
  have q17 : ((str op).toList == ([84, 79] : Bs)) = false := by rw [toL, hop]; decide
  have q18 : ((str op).toList == ([72, 69, 65, 68, 69, 82] : Bs)) = false := by rw [toL, hop]; decide
  have q19 : ((str op).toList == ([66, 79, 68, 89] : Bs)) = false := by rw [toL, hop]; decide
  have q20 : ((str op).toList == ([84, 69, 88, 84] : Bs)) = false := by rw [toL, hop]; decide
  have q21 : ((str op).toList == ([66, 69, 70, 79, 82, 69] : Bs)) = false := by rw [toL, hop]; decide
  have q99 : ((str op).toList == ([79, 78] : Bs)) = true := by rw [toL, hop]; decide
  have ha : Below w.heap.size w (w.alloc (.cells #[.string (str op), .string (str t), .string (str f), .int .i64 n, .slice a p c, .slice d q g] 28)) := (Below.refl _ _).alloc (Nat.le_refl _) _
  obtain ⟨w1, hw1⟩ : ∃ w1, w.alloc (.cells #[.string (str op), .string (str t), .string (str f), .int .i64 n, .slice a p c, .slice d q g] 28) = w1 := ⟨_, rfl⟩
  have HKy : Hid (KyAt w1 w.heap.size ⟨op, t, f, n, (a, p, c), (d, q, g)⟩) := by rw [← hw1]; exact KyAt.new w ⟨op, t, f, n, (a, p, c), (d, q, g)⟩
  rw [hw1] at ha
  have HE := hid (he.later ha)
  have HAt := hid (h.later ha)
  have HFs : Hid (FsOk w1 L) := fun hr => (hf hr).later ha
  have HB := hid ha
  have HLt := hid h.lt
  have HT := hid ht
  have k0 := HKy.out.cell 0
  have k3 := HKy.out.cell 3
  have l9 := HAt.out.cell 9
  have l2 := HAt.out.cell 2
  have l3 := HAt.out.cell 3
  have l4 := HAt.out.cell 4
  have l5 := HAt.out.cell 5
  have l6 := HAt.out.cell 6
  have l7 := HAt.out.cell 7
  have l8 := HAt.out.cell 8
  simp only [Ky.c, Lk.c, List.getElem?_cons_succ, List.getElem?_cons_zero] at k0 k3 l2 l3 l4 l5 l6 l7 l8 l9
  have hF := fldk b
  have f0 := fun w => (hF w).1
  have g3 := fun w => (hF w).2.2.2.2.2.2.2.2
  have g2 := fld33 b
  have htz := str_size L.text
  clear he h hf ha hF hop
  go_enter Tryz.func23, Tryz.ntmps23
  go_wp2_with fail
  have qc : w1.cell? ⟨w.heap.size, 0, none⟩ = some (.string (str op)) ∧ w1.cell? ⟨w.heap.size, 3, none⟩ = some (.int .i64 n) ∧ w1.cell? ⟨b, 2, none⟩ = some (.int .i64 L.d1) ∧ w1.cell? ⟨b, 3, none⟩ = some (.int .i64 L.d2) ∧ w1.cell? ⟨b, 4, none⟩ = some (.int .i64 L.d3) ∧ w1.cell? ⟨b, 5, none⟩ = some (.int .i64 L.d4) ∧ w1.cell? ⟨b, 6, none⟩ = some (.int .i64 L.d5) ∧ w1.cell? ⟨b, 7, none⟩ = some (.int .i64 L.d6) ∧ w1.cell? ⟨b, 8, none⟩ = some (.int .i64 L.d7) := ⟨k0, k3, l2, l3, l4, l5, l6, l7, l8⟩
  have HQ : Hid (∀ w' : World, KyAt w' w.heap.size ⟨op, t, f, n, (a, p, c), (d, q, g)⟩ → LkAt w' b L → w'.cell? ⟨w.heap.size, 0, none⟩ = some (.string (str op)) ∧ w'.cell? ⟨w.heap.size, 3, none⟩ = some (.int .i64 n) ∧ w'.cell? ⟨b, 2, none⟩ = some (.int .i64 L.d1) ∧ w'.cell? ⟨b, 3, none⟩ = some (.int .i64 L.d2) ∧ w'.cell? ⟨b, 4, none⟩ = some (.int .i64 L.d3) ∧ w'.cell? ⟨b, 5, none⟩ = some (.int .i64 L.d4) ∧ w'.cell? ⟨b, 6, none⟩ = some (.int .i64 L.d5) ∧ w'.cell? ⟨b, 7, none⟩ = some (.int .i64 L.d6) ∧ w'.cell? ⟨b, 8, none⟩ = some (.int .i64 L.d7)) := by
    intro w' e1 e2
    have k0 := e1.cell 0
    have k3 := e1.cell 3
    have l2 := e2.cell 2
    have l3 := e2.cell 3
    have l4 := e2.cell 4
    have l5 := e2.cell 5
    have l6 := e2.cell 6
    have l7 := e2.cell 7
    have l8 := e2.cell 8
    simp only [Ky.c, Lk.c, List.getElem?_cons_succ, List.getElem?_cons_zero] at k0 k3 l2 l3 l4 l5 l6 l7 l8
    exact ⟨k0, k3, l2, l3, l4, l5, l6, l7, l8⟩
  clear hw1 k0 k3 l2 l3 l4 l5 l6 l7 l8 l9
  go_region_held3 (fun w' => w'.cell? ⟨w.heap.size, 0, none⟩ = some (.string (str op)) ∧ w'.cell? ⟨w.heap.size, 3, none⟩ = some (.int .i64 n) ∧ w'.cell? ⟨b, 2, none⟩ = some (.int .i64 L.d1) ∧ w'.cell? ⟨b, 3, none⟩ = some (.int .i64 L.d2) ∧ w'.cell? ⟨b, 4, none⟩ = some (.int .i64 L.d3) ∧ w'.cell? ⟨b, 5, none⟩ = some (.int .i64 L.d4) ∧ w'.cell? ⟨b, 6, none⟩ = some (.int .i64 L.d5) ∧ w'.cell? ⟨b, 7, none⟩ = some (.int .i64 L.d6) ∧ w'.cell? ⟨b, 8, none⟩ = some (.int .i64 L.d7)) (first | exact qc | go_keep) (first
    | (go_at_call 41; refine (number_any _ _ _ _ _ _ _ _).mono ?_; rintro e wk ⟨rfl, hb⟩; have HBk : Below w1.heap.size w1 wk := Below.trans (by repeat (first | exact Below.refl _ _ | refine Below.drew ?_)) hb; have qc := HQ.out wk (HKy.out.later HBk) (HAt.out.later HBk); clear hb)
    | (go_at_call 40; refine (placed_any op _ _ _).mono ?_; rintro e w5 ⟨rfl, hw5⟩; have HB5 : Below w1.heap.size w1 w5 := (by rw [hw5]; repeat (first | exact HBk | refine Below.drew ?_)); have qc := HQ.out w5 (HKy.out.later HB5) (HAt.out.later HB5); clear hw5))
  go_wp2_with fail
  go_ret
  exact ⟨Seen2.of (HAt.out.later HB5) (fun hr => (HFs.out hr).later HB5), rfl, kept_t (Kept.ofBelow HB.out [b]) (Kept.ofBelow HB5 [b])⟩
set_option maxRecDepth 100000 in
set_option maxHeartbeats 4000000 in
theorem since_any {w : World} {b : Nat} {L : Lk} (he : Env w) (hb0 : 0 < b) (h : LkAt w b L) (hf : FsOk w L) (ht : L.text.length ≤ 1000000) (op t f : Bs) (n : Int) (a : Option Addr) (p c : Nat) (d : Option Addr) (q g : Nat) (hop : op = [83, 73, 78, 67, 69]) :
    Calls Tryz.prog 23 #[.pointer (some ⟨b, 0, none⟩), .agg #[.string (str op), .string (str t), .string (str f), .int .i64 n, .slice a p c, .slice d q g]] w fun e w' => Seen2 w' b L ∧ e = .returned (.bool (placedB op (D.daysV L.d1 L.d2 L.d3) n)) ∧ Kept [b] w w' := by
  have q0 : ((str op).toList == ([65, 76, 76] : Bs)) = false := by rw [toL, hop]; decide
  have q1 : ((str op).toList == ([65, 78, 83, 87, 69, 82, 69, 68] : Bs)) = false := by rw [toL, hop]; decide
  have q2 : ((str op).toList == ([68, 69, 76, 69, 84, 69, 68] : Bs)) = false := by rw [toL, hop]; decide
  have q3 : ((str op).toList == ([68, 82, 65, 70, 84] : Bs)) = false := by rw [toL, hop]; decide
  have q4 : ((str op).toList == ([70, 76, 65, 71, 71, 69, 68] : Bs)) = false := by rw [toL, hop]; decide
  have q5 : ((str op).toList == ([83, 69, 69, 78] : Bs)) = false := by rw [toL, hop]; decide
  have q6 : ((str op).toList == ([85, 78, 65, 78, 83, 87, 69, 82, 69, 68] : Bs)) = false := by rw [toL, hop]; decide
  have q7 : ((str op).toList == ([85, 78, 68, 69, 76, 69, 84, 69, 68] : Bs)) = false := by rw [toL, hop]; decide
  have q8 : ((str op).toList == ([85, 78, 68, 82, 65, 70, 84] : Bs)) = false := by rw [toL, hop]; decide
  have q9 : ((str op).toList == ([85, 78, 70, 76, 65, 71, 71, 69, 68] : Bs)) = false := by rw [toL, hop]; decide
  have q10 : ((str op).toList == ([85, 78, 83, 69, 69, 78] : Bs)) = false := by rw [toL, hop]; decide
  have q11 : ((str op).toList == ([75, 69, 89, 87, 79, 82, 68] : Bs)) = false := by rw [toL, hop]; decide
  have q12 : ((str op).toList == ([85, 78, 75, 69, 89, 87, 79, 82, 68] : Bs)) = false := by rw [toL, hop]; decide
  have q13 : ((str op).toList == ([66, 67, 67] : Bs)) = false := by rw [toL, hop]; decide
  have q14 : ((str op).toList == ([67, 67] : Bs)) = false := by rw [toL, hop]; decide
  have q15 : ((str op).toList == ([70, 82, 79, 77] : Bs)) = false := by rw [toL, hop]; decide
  have q16 : ((str op).toList == ([83, 85, 66, 74, 69, 67, 84] : Bs)) = false := by rw [toL, hop]; decide
  have q17 : ((str op).toList == ([84, 79] : Bs)) = false := by rw [toL, hop]; decide
  have q18 : ((str op).toList == ([72, 69, 65, 68, 69, 82] : Bs)) = false := by rw [toL, hop]; decide
  have q19 : ((str op).toList == ([66, 79, 68, 89] : Bs)) = false := by rw [toL, hop]; decide
  have q20 : ((str op).toList == ([84, 69, 88, 84] : Bs)) = false := by rw [toL, hop]; decide
  have q21 : ((str op).toList == ([66, 69, 70, 79, 82, 69] : Bs)) = false := by rw [toL, hop]; decide
  have q22 : ((str op).toList == ([79, 78] : Bs)) = false := by rw [toL, hop]; decide
  have q99 : ((str op).toList == ([83, 73, 78, 67, 69] : Bs)) = true := by rw [toL, hop]; decide
  have ha : Below w.heap.size w (w.alloc (.cells #[.string (str op), .string (str t), .string (str f), .int .i64 n, .slice a p c, .slice d q g] 28)) := (Below.refl _ _).alloc (Nat.le_refl _) _
  obtain ⟨w1, hw1⟩ : ∃ w1, w.alloc (.cells #[.string (str op), .string (str t), .string (str f), .int .i64 n, .slice a p c, .slice d q g] 28) = w1 := ⟨_, rfl⟩
  have HKy : Hid (KyAt w1 w.heap.size ⟨op, t, f, n, (a, p, c), (d, q, g)⟩) := by rw [← hw1]; exact KyAt.new w ⟨op, t, f, n, (a, p, c), (d, q, g)⟩
  rw [hw1] at ha
  have HE := hid (he.later ha)
  have HAt := hid (h.later ha)
  have HFs : Hid (FsOk w1 L) := fun hr => (hf hr).later ha
  have HB := hid ha
  have HLt := hid h.lt
  have HT := hid ht
  have k0 := HKy.out.cell 0
  have k3 := HKy.out.cell 3
  have l9 := HAt.out.cell 9
  have l2 := HAt.out.cell 2
  have l3 := HAt.out.cell 3
  have l4 := HAt.out.cell 4
  have l5 := HAt.out.cell 5
  have l6 := HAt.out.cell 6
  have l7 := HAt.out.cell 7
  have l8 := HAt.out.cell 8
  simp only [Ky.c, Lk.c, List.getElem?_cons_succ, List.getElem?_cons_zero] at k0 k3 l2 l3 l4 l5 l6 l7 l8 l9
  have hF := fldk b
  have f0 := fun w => (hF w).1
  have g3 := fun w => (hF w).2.2.2.2.2.2.2.2
  have g2 := fld33 b
  have htz := str_size L.text
  clear he h hf ha hF hop
  go_enter Tryz.func23, Tryz.ntmps23
  go_wp2_with fail
  have qc : w1.cell? ⟨w.heap.size, 0, none⟩ = some (.string (str op)) ∧ w1.cell? ⟨w.heap.size, 3, none⟩ = some (.int .i64 n) ∧ w1.cell? ⟨b, 2, none⟩ = some (.int .i64 L.d1) ∧ w1.cell? ⟨b, 3, none⟩ = some (.int .i64 L.d2) ∧ w1.cell? ⟨b, 4, none⟩ = some (.int .i64 L.d3) ∧ w1.cell? ⟨b, 5, none⟩ = some (.int .i64 L.d4) ∧ w1.cell? ⟨b, 6, none⟩ = some (.int .i64 L.d5) ∧ w1.cell? ⟨b, 7, none⟩ = some (.int .i64 L.d6) ∧ w1.cell? ⟨b, 8, none⟩ = some (.int .i64 L.d7) := ⟨k0, k3, l2, l3, l4, l5, l6, l7, l8⟩
  have HQ : Hid (∀ w' : World, KyAt w' w.heap.size ⟨op, t, f, n, (a, p, c), (d, q, g)⟩ → LkAt w' b L → w'.cell? ⟨w.heap.size, 0, none⟩ = some (.string (str op)) ∧ w'.cell? ⟨w.heap.size, 3, none⟩ = some (.int .i64 n) ∧ w'.cell? ⟨b, 2, none⟩ = some (.int .i64 L.d1) ∧ w'.cell? ⟨b, 3, none⟩ = some (.int .i64 L.d2) ∧ w'.cell? ⟨b, 4, none⟩ = some (.int .i64 L.d3) ∧ w'.cell? ⟨b, 5, none⟩ = some (.int .i64 L.d4) ∧ w'.cell? ⟨b, 6, none⟩ = some (.int .i64 L.d5) ∧ w'.cell? ⟨b, 7, none⟩ = some (.int .i64 L.d6) ∧ w'.cell? ⟨b, 8, none⟩ = some (.int .i64 L.d7)) := by
    intro w' e1 e2
    have k0 := e1.cell 0
    have k3 := e1.cell 3
    have l2 := e2.cell 2
    have l3 := e2.cell 3
    have l4 := e2.cell 4
    have l5 := e2.cell 5
    have l6 := e2.cell 6
    have l7 := e2.cell 7
    have l8 := e2.cell 8
    simp only [Ky.c, Lk.c, List.getElem?_cons_succ, List.getElem?_cons_zero] at k0 k3 l2 l3 l4 l5 l6 l7 l8
    exact ⟨k0, k3, l2, l3, l4, l5, l6, l7, l8⟩
  clear hw1 k0 k3 l2 l3 l4 l5 l6 l7 l8 l9
  go_region_held3 (fun w' => w'.cell? ⟨w.heap.size, 0, none⟩ = some (.string (str op)) ∧ w'.cell? ⟨w.heap.size, 3, none⟩ = some (.int .i64 n) ∧ w'.cell? ⟨b, 2, none⟩ = some (.int .i64 L.d1) ∧ w'.cell? ⟨b, 3, none⟩ = some (.int .i64 L.d2) ∧ w'.cell? ⟨b, 4, none⟩ = some (.int .i64 L.d3) ∧ w'.cell? ⟨b, 5, none⟩ = some (.int .i64 L.d4) ∧ w'.cell? ⟨b, 6, none⟩ = some (.int .i64 L.d5) ∧ w'.cell? ⟨b, 7, none⟩ = some (.int .i64 L.d6) ∧ w'.cell? ⟨b, 8, none⟩ = some (.int .i64 L.d7)) (first | exact qc | go_keep) (first
    | (go_at_call 41; refine (number_any _ _ _ _ _ _ _ _).mono ?_; rintro e wk ⟨rfl, hb⟩; have HBk : Below w1.heap.size w1 wk := Below.trans (by repeat (first | exact Below.refl _ _ | refine Below.drew ?_)) hb; have qc := HQ.out wk (HKy.out.later HBk) (HAt.out.later HBk); clear hb)
    | (go_at_call 40; refine (placed_any op _ _ _).mono ?_; rintro e w5 ⟨rfl, hw5⟩; have HB5 : Below w1.heap.size w1 w5 := (by rw [hw5]; repeat (first | exact HBk | refine Below.drew ?_)); have qc := HQ.out w5 (HKy.out.later HB5) (HAt.out.later HB5); clear hw5))
  go_wp2_with fail
  go_ret
  exact ⟨Seen2.of (HAt.out.later HB5) (fun hr => (HFs.out hr).later HB5), rfl, kept_t (Kept.ofBelow HB.out [b]) (Kept.ofBelow HB5 [b])⟩
end Go.Proofs.YtaniljfjmbifnaaGreatDoor.H
