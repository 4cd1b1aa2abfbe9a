/- What this text holds: keys that ask for the day that a message's header tells. -/
import Derived.Test.YtaniljfjmbifnaaGreatDoorK15
namespace Go.Proofs.YtaniljfjmbifnaaGreatDoor.H
open Go.RowKit
set_option linter.unusedVariables false
set_option linter.unusedSimpArgs false

/-- Is a message's day, as its header tells it, placed so? -/
def sentB (t op : Bs) (n : Int) : Bool := match sentP t with
  | some d => placedB op (D.daysV d.y d.mo d.d) n
  | none => false
set_option maxRecDepth 100000 in
set_option maxHeartbeats 4000000 in
theorem sentbefore_any {w : World} {b : Nat} {L : Lk} (he : Env w) (hb0 : 0 < b) (h : LkAt w b L) (hf : FsOk w L) (ht : L.text.length ≤ 1000000) (op t f : Bs) (n : Int) (a : Option Addr) (p c : Nat) (d : Option Addr) (q g : Nat) (hop : op = [83, 69, 78, 84, 66, 69, 70, 79, 82, 69]) (hsv : ∀ v ∈ valsL L.text dateN, v.length ≤ 1000000) :
    Calls Tryz.prog 23 #[.pointer (some ⟨b, 0, none⟩), .agg #[.string (str op), .string (str t), .string (str f), .int .i64 n, .slice a p c, .slice d q g]] w fun e w' => Seen2 w' b L ∧ e = .returned (.bool (sentB L.text (op.drop 4) n)) ∧ Kept [b] w w' := by
  have q0 : ((str op).toList == ([65, 76, 76] : Bs)) = false := by rw [toL, hop]; decide
  have q1 : ((str op).toList == ([65, 78, 83, 87, 69, 82, 69, 68] : Bs)) = false := by rw [toL, hop]; decide
  have q2 : ((str op).toList == ([68, 69, 76, 69, 84, 69, 68] : Bs)) = false := by rw [toL, hop]; decide
  have q3 : ((str op).toList == ([68, 82, 65, 70, 84] : Bs)) = false := by rw [toL, hop]; decide
  have q4 : ((str op).toList == ([70, 76, 65, 71, 71, 69, 68] : Bs)) = false := by rw [toL, hop]; decide
  have q5 : ((str op).toList == ([83, 69, 69, 78] : Bs)) = false := by rw [toL, hop]; decide
  have q6 : ((str op).toList == ([85, 78, 65, 78, 83, 87, 69, 82, 69, 68] : Bs)) = false := by rw [toL, hop]; decide
  have q7 : ((str op).toList == ([85, 78, 68, 69, 76, 69, 84, 69, 68] : Bs)) = false := by rw [toL, hop]; decide
  have q8 : ((str op).toList == ([85, 78, 68, 82, 65, 70, 84] : Bs)) = false := by rw [toL, hop]; decide
  have q9 : ((str op).toList == ([85, 78, 70, 76, 65, 71, 71, 69, 68] : Bs)) = false := by rw [toL, hop]; decide
  have q10 : ((str op).toList == ([85, 78, 83, 69, 69, 78] : Bs)) = false := by rw [toL, hop]; decide
  have q11 : ((str op).toList == ([75, 69, 89, 87, 79, 82, 68] : Bs)) = false := by rw [toL, hop]; decide
  have q12 : ((str op).toList == ([85, 78, 75, 69, 89, 87, 79, 82, 68] : Bs)) = false := by rw [toL, hop]; decide
  have q13 : ((str op).toList == ([66, 67, 67] : Bs)) = false := by rw [toL, hop]; decide
  have q14 : ((str op).toList == ([67, 67] : Bs)) = false := by rw [toL, hop]; decide
  have q15 : ((str op).toList == ([70, 82, 79, 77] : Bs)) = false := by rw [toL, hop]; decide
  have q16 : ((str op).toList == ([83, 85, 66, 74, 69, 67, 84] : Bs)) = false := by rw [toL, hop]; decide
  have q17 : ((str op).toList == ([84, 79] : Bs)) = false := by rw [toL, hop]; decide
  have q18 : ((str op).toList == ([72, 69, 65, 68, 69, 82] : Bs)) = false := by rw [toL, hop]; decide
  have q19 : ((str op).toList == ([66, 79, 68, 89] : Bs)) = false := by rw [toL, hop]; decide
  have q20 : ((str op).toList == ([84, 69, 88, 84] : Bs)) = false := by rw [toL, hop]; decide
  have q21 : ((str op).toList == ([66, 69, 70, 79, 82, 69] : Bs)) = false := by rw [toL, hop]; decide
  have q22 : ((str op).toList == ([79, 78] : Bs)) = false := by rw [toL, hop]; decide
  have q23 : ((str op).toList == ([83, 73, 78, 67, 69] : Bs)) = false := by rw [toL, hop]; decide
  have q99 : ((str op).toList == ([83, 69, 78, 84, 66, 69, 70, 79, 82, 69] : Bs)) = true := by rw [toL, hop]; decide
  have ha : Below w.heap.size w (w.alloc (.cells #[.string (str op), .string (str t), .string (str f), .int .i64 n, .slice a p c, .slice d q g] 28)) := (Below.refl _ _).alloc (Nat.le_refl _) _
  obtain ⟨w1, hw1⟩ : ∃ w1, w.alloc (.cells #[.string (str op), .string (str t), .string (str f), .int .i64 n, .slice a p c, .slice d q g] 28) = w1 := ⟨_, rfl⟩
  have HKy : Hid (KyAt w1 w.heap.size ⟨op, t, f, n, (a, p, c), (d, q, g)⟩) := by rw [← hw1]; exact KyAt.new w ⟨op, t, f, n, (a, p, c), (d, q, g)⟩
  rw [hw1] at ha
  have HE := hid (he.later ha)
  have HAt := hid (h.later ha)
  have HFs : Hid (FsOk w1 L) := fun hr => (hf hr).later ha
  have HB := hid ha
  have HLt := hid h.lt
  have HT := hid ht
  have k0 := HKy.out.cell 0
  have k3 := HKy.out.cell 3
  have l9 := HAt.out.cell 9
  have l2 := HAt.out.cell 2
  have l3 := HAt.out.cell 3
  have l4 := HAt.out.cell 4
  have l5 := HAt.out.cell 5
  have l6 := HAt.out.cell 6
  have l7 := HAt.out.cell 7
  have l8 := HAt.out.cell 8
  simp only [Ky.c, Lk.c, List.getElem?_cons_succ, List.getElem?_cons_zero] at k0 k3 l2 l3 l4 l5 l6 l7 l8 l9
  have hF := fldk b
  have f0 := fun w => (hF w).1
  have g3 := fun w => (hF w).2.2.2.2.2.2.2.2
  have g2 := fld33 b
  have htz := str_size L.text
  have HSV := hid hsv
  have HOl : Hid (6 ≤ op.length) := by rw [Hid, hop]; decide
  clear he h hf ha hF hop
  go_enter Tryz.func23, Tryz.ntmps23
  go_wp2_with fail
  clear hw1
  refine (sent_any HE.out hb0 HAt.out HFs.out HT.out HSV.out).mono ?_
  rintro e w2 ⟨hs, hsi, hkp⟩
  have HS := hid hs
  have HK2 := hid (kept_t (Kept.ofBelow HB.out [b]) hkp)
  have HKy2 := hid (HKy.out.kept hkp (by simp; have := HLt.out; omega))
  unfold SentIs at hsi
  clear hs hkp k0 k3 l2 l3 l4 l5 l6 l7 l8 l9
  rcases hsp : sentP L.text with _ | dd
  · rw [hsp] at hsi
    obtain ⟨dz, rfl⟩ := hsi
    obtain ⟨z1, z2, z3, z4, z5, z6, z7⟩ := dz
    have HZ : Hid (sentB L.text (op.drop 4) n = false) := by unfold Hid sentB; rw [hsp]
    clear hsp
    simp only [D.dtV, D.dtL]
    go_wp2_with fail
    go_quiet (fail)
    go_wp2_with fail
    go_ret
    rw [HZ.out]
    obtain ⟨fs, hl, hf⟩ := HS.out
    have hbz : Below w2.heap.size w2 (w2.alloc (.cells #[.int .i64 z1, .int .i64 z2, .int .i64 z3, .int .i64 z4, .int .i64 z5, .int .i64 z6, .int .i64 z7] 31)) := (Below.refl _ _).alloc (Nat.le_refl _) _
    exact ⟨⟨true, fs, (hl.later hbz).later (drewN_below _ _ _), fun hr => ((hf hr).later hbz).later (drewN_below _ _ _)⟩, rfl, kept_t (kept_t HK2.out (Kept.ofBelow hbz [b])) (Kept.ofBelow (drewN_below _ _ _) [b])⟩
  · rw [hsp] at hsi
    subst hsi
    obtain ⟨z1, z2, z3, z4, z5, z6, z7⟩ := dd
    have HZ : Hid (sentB L.text (op.drop 4) n = placedB (op.drop 4) (D.daysV z1 z2 z3) n) := by unfold Hid sentB; rw [hsp]
    have HPl := hid (fun (w0 : World) => placed_any (op.drop 4) (D.daysV z1 z2 z3) n w0)
    rw [← drop_str, str_size] at HPl
    have hol : 4 ≤ op.length := by have := HOl.out; omega
    have hol' : (4 : Int) ≤ op.length := by omega
    have hoz := str_size op
    clear hsp
    have hbz : Below w2.heap.size w2 (w2.alloc (.cells #[.int .i64 z1, .int .i64 z2, .int .i64 z3, .int .i64 z4, .int .i64 z5, .int .i64 z6, .int .i64 z7] 31)) := (Below.refl _ _).alloc (Nat.le_refl _) _
    obtain ⟨w3, hw3⟩ : ∃ w3, w2.alloc (.cells #[.int .i64 z1, .int .i64 z2, .int .i64 z3, .int .i64 z4, .int .i64 z5, .int .i64 z6, .int .i64 z7] 31) = w3 := ⟨_, rfl⟩
    have hd3 : w3.heap[w2.heap.size]? = some (.cells (D.dtL ⟨z1, z2, z3, z4, z5, z6, z7⟩).toArray 31 (0, 0)) := by rw [← hw3]; exact heap_alloc_new _ _
    rw [hw3] at hbz
    have HBz := hid hbz
    have HD3 := hid hd3
    have HQ : Hid (∀ w' : World, KyAt w' w.heap.size ⟨op, t, f, n, (a, p, c), (d, q, g)⟩ → DtAt w' w2.heap.size ⟨z1, z2, z3, z4, z5, z6, z7⟩ → w'.cell? ⟨w.heap.size, 0, none⟩ = some (.string (str op)) ∧ w'.cell? ⟨w.heap.size, 3, none⟩ = some (.int .i64 n) ∧ w'.cell? ⟨w2.heap.size, 0, none⟩ = some (.int .i64 z1) ∧ w'.cell? ⟨w2.heap.size, 1, none⟩ = some (.int .i64 z2) ∧ w'.cell? ⟨w2.heap.size, 2, none⟩ = some (.int .i64 z3) ∧ w'.cell? ⟨w2.heap.size, 3, none⟩ = some (.int .i64 z4) ∧ w'.cell? ⟨w2.heap.size, 4, none⟩ = some (.int .i64 z5) ∧ w'.cell? ⟨w2.heap.size, 5, none⟩ = some (.int .i64 z6) ∧ w'.cell? ⟨w2.heap.size, 6, none⟩ = some (.int .i64 z7)) := by
      intro w' e1 e2
      have k0 := e1.cell 0
      have k3 := e1.cell 3
      simp only [Ky.c, List.getElem?_cons_succ, List.getElem?_cons_zero] at k0 k3
      obtain ⟨y1, y2, y3, y4, y5, y6, y7⟩ := D.cA_load e2
      exact ⟨k0, k3, y1, y2, y3, y4, y5, y6, y7⟩
    have HKy3 := hid (HKy2.out.later hbz)
    have qc := HQ.out w3 HKy3.out hd3
    clear hbz hd3
    simp only [D.dtV, D.dtL]
    go_wp2_with fail
    clear hw3
    go_region_held3 (fun w' => w'.cell? ⟨w.heap.size, 0, none⟩ = some (.string (str op)) ∧ w'.cell? ⟨w.heap.size, 3, none⟩ = some (.int .i64 n) ∧ w'.cell? ⟨w2.heap.size, 0, none⟩ = some (.int .i64 z1) ∧ w'.cell? ⟨w2.heap.size, 1, none⟩ = some (.int .i64 z2) ∧ w'.cell? ⟨w2.heap.size, 2, none⟩ = some (.int .i64 z3) ∧ w'.cell? ⟨w2.heap.size, 3, none⟩ = some (.int .i64 z4) ∧ w'.cell? ⟨w2.heap.size, 4, none⟩ = some (.int .i64 z5) ∧ w'.cell? ⟨w2.heap.size, 5, none⟩ = some (.int .i64 z6) ∧ w'.cell? ⟨w2.heap.size, 6, none⟩ = some (.int .i64 z7)) (first | exact qc | go_keep) (first
      | (go_at_call 41; refine (number_any _ _ _ _ _ _ _ _).mono ?_; rintro e wk ⟨rfl, hb⟩; have HBk : Below w3.heap.size w3 wk := Below.trans (by repeat (first | exact Below.refl _ _ | refine Below.drew ?_)) hb; have qc := HQ.out wk (HKy3.out.later HBk) ((HBk.block _ ((Array.getElem?_eq_some_iff.1 HD3.out).1)).trans HD3.out); clear hb)
      | (go_at_call 40; refine (HPl.out _).mono ?_; rintro e w5 ⟨rfl, hw5⟩; have HB5 : Below w3.heap.size w3 w5 := (by rw [hw5]; repeat (first | exact HBk | refine Below.drew ?_)); have qc := HQ.out w5 (HKy3.out.later HB5) ((HB5.block _ ((Array.getElem?_eq_some_iff.1 HD3.out).1)).trans HD3.out); clear hw5))
    go_wp2_with fail
    go_ret
    rw [HZ.out]
    obtain ⟨fs, hl, hf⟩ := HS.out
    exact ⟨⟨true, fs, (hl.later HBz.out).later HB5, fun hr => ((hf hr).later HBz.out).later HB5⟩, rfl, kept_t (kept_t HK2.out (Kept.ofBelow HBz.out [b])) (Kept.ofBelow HB5 [b])⟩
set_option maxRecDepth 100000 in
set_option maxHeartbeats 4000000 in
theorem senton_any {w : World} {b : Nat} {L : Lk} (he : Env w) (hb0 : 0 < b) (h : LkAt w b L) (hf : FsOk w L) (ht : L.text.length ≤ 1000000) (op t f : Bs) (n : Int) (a : Option Addr) (p c : Nat) (d : Option Addr) (q g : Nat) (hop : op = [83, 69, 78, 84, 79, 78]) (hsv : ∀ v ∈ valsL L.text dateN, v.length ≤ 1000000) :
    Calls Tryz.prog 23 #[.pointer (some ⟨b, 0, none⟩), .agg #[.string (str op), .string (str t), .string (str f), .int .i64 n, .slice a p c, .slice d q g]] w fun e w' => Seen2 w' b L ∧ e = .returned (.bool (sentB L.text (op.drop 4) n)) ∧ Kept [b] w w' := by
  have q0 : ((str op).toList == ([65, 76, 76] : Bs)) = false := by rw [toL, hop]; decide
  have q1 : ((str op).toList == ([65, 78, 83, 87, 69, 82, 69, 68] : Bs)) = false := by rw [toL, hop]; decide
  have q2 : ((str op).toList == ([68, 69, 76, 69, 84, 69, 68] : Bs)) = false := by rw [toL, hop]; decide
  have q3 : ((str op).toList == ([68, 82, 65, 70, 84] : Bs)) = false := by rw [toL, hop]; decide
  have q4 : ((str op).toList == ([70, 76, 65, 71, 71, 69, 68] : Bs)) = false := by rw [toL, hop]; decide
  have q5 : ((str op).toList == ([83, 69, 69, 78] : Bs)) = false := by rw [toL, hop]; decide
  have q6 : ((str op).toList == ([85, 78, 65, 78, 83, 87, 69, 82, 69, 68] : Bs)) = false := by rw [toL, hop]; decide
  have q7 : ((str op).toList == ([85, 78, 68, 69, 76, 69, 84, 69, 68] : Bs)) = false := by rw [toL, hop]; decide
  have q8 : ((str op).toList == ([85, 78, 68, 82, 65, 70, 84] : Bs)) = false := by rw [toL, hop]; decide
  have q9 : ((str op).toList == ([85, 78, 70, 76, 65, 71, 71, 69, 68] : Bs)) = false := by rw [toL, hop]; decide
  have q10 : ((str op).toList == ([85, 78, 83, 69, 69, 78] : Bs)) = false := by rw [toL, hop]; decide
  have q11 : ((str op).toList == ([75, 69, 89, 87, 79, 82, 68] : Bs)) = false := by rw [toL, hop]; decide
  have q12 : ((str op).toList == ([85, 78, 75, 69, 89, 87, 79, 82, 68] : Bs)) = false := by rw [toL, hop]; decide
  have q13 : ((str op).toList == ([66, 67, 67] : Bs)) = false := by rw [toL, hop]; decide
  have q14 : ((str op).toList == ([67, 67] : Bs)) = false := by rw [toL, hop]; decide
  have q15 : ((str op).toList == ([70, 82, 79, 77] : Bs)) = false := by rw [toL, hop]; decide
  have q16 : ((str op).toList == ([83, 85, 66, 74, 69, 67, 84] : Bs)) = false := by rw [toL, hop]; decide
  have q17 : ((str op).toList == ([84, 79] : Bs)) = false := by rw [toL, hop]; decide
  have q18 : ((str op).toList == ([72, 69, 65, 68, 69, 82] : Bs)) = false := by rw [toL, hop]; decide
  have q19 : ((str op).toList == ([66, 79, 68, 89] : Bs)) = false := by rw [toL, hop]; decide
  have q20 : ((str op).toList == ([84, 69, 88, 84] : Bs)) = false := by rw [toL, hop]; decide
  have q21 : ((str op).toList == ([66, 69, 70, 79, 82, 69] : Bs)) = false := by rw [toL, hop]; decide
  have q22 : ((str op).toList == ([79, 78] : Bs)) = false := by rw [toL, hop]; decide
  have q23 : ((str op).toList == ([83, 73, 78, 67, 69] : Bs)) = false := by rw [toL, hop]; decide
  have q24 : ((str op).toList == ([83, 69, 78, 84, 66, 69, 70, 79, 82, 69] : Bs)) = false := by rw [toL, hop]; decide
  have q99 : ((str op).toList == ([83, 69, 78, 84, 79, 78] : Bs)) = true := by rw [toL, hop]; decide
  have ha : Below w.heap.size w (w.alloc (.cells #[.string (str op), .string (str t), .string (str f), .int .i64 n, .slice a p c, .slice d q g] 28)) := (Below.refl _ _).alloc (Nat.le_refl _) _
  obtain ⟨w1, hw1⟩ : ∃ w1, w.alloc (.cells #[.string (str op), .string (str t), .string (str f), .int .i64 n, .slice a p c, .slice d q g] 28) = w1 := ⟨_, rfl⟩
  have HKy : Hid (KyAt w1 w.heap.size ⟨op, t, f, n, (a, p, c), (d, q, g)⟩) := by rw [← hw1]; exact KyAt.new w ⟨op, t, f, n, (a, p, c), (d, q, g)⟩
  rw [hw1] at ha
  have HE := hid (he.later ha)
  have HAt := hid (h.later ha)
  have HFs : Hid (FsOk w1 L) := fun hr => (hf hr).later ha
  have HB := hid ha
  have HLt := hid h.lt
  have HT := hid ht
  have k0 := HKy.out.cell 0
  have k3 := HKy.out.cell 3
  have l9 := HAt.out.cell 9
  have l2 := HAt.out.cell 2
  have l3 := HAt.out.cell 3
  have l4 := HAt.out.cell 4
  have l5 := HAt.out.cell 5
  have l6 := HAt.out.cell 6
  have l7 := HAt.out.cell 7
  have l8 := HAt.out.cell 8
  simp only [Ky.c, Lk.c, List.getElem?_cons_succ, List.getElem?_cons_zero] at k0 k3 l2 l3 l4 l5 l6 l7 l8 l9
  have hF := fldk b
  have f0 := fun w => (hF w).1
  have g3 := fun w => (hF w).2.2.2.2.2.2.2.2
  have g2 := fld33 b
  have htz := str_size L.text
  have HSV := hid hsv
  have HOl : Hid (6 ≤ op.length) := by rw [Hid, hop]; decide
  clear he h hf ha hF hop
  go_enter Tryz.func23, Tryz.ntmps23
  go_wp2_with fail
  clear hw1
  refine (sent_any HE.out hb0 HAt.out HFs.out HT.out HSV.out).mono ?_
  rintro e w2 ⟨hs, hsi, hkp⟩
  have HS := hid hs
  have HK2 := hid (kept_t (Kept.ofBelow HB.out [b]) hkp)
  have HKy2 := hid (HKy.out.kept hkp (by simp; have := HLt.out; omega))
  unfold SentIs at hsi
  clear hs hkp k0 k3 l2 l3 l4 l5 l6 l7 l8 l9
  rcases hsp : sentP L.text with _ | dd
  · rw [hsp] at hsi
    obtain ⟨dz, rfl⟩ := hsi
    obtain ⟨z1, z2, z3, z4, z5, z6, z7⟩ := dz
    have HZ : Hid (sentB L.text (op.drop 4) n = false) := by unfold Hid sentB; rw [hsp]
    clear hsp
    simp only [D.dtV, D.dtL]
    go_wp2_with fail
    go_quiet (fail)
    go_wp2_with fail
    go_ret
    rw [HZ.out]
    obtain ⟨fs, hl, hf⟩ := HS.out
    have hbz : Below w2.heap.size w2 (w2.alloc (.cells #[.int .i64 z1, .int .i64 z2, .int .i64 z3, .int .i64 z4, .int .i64 z5, .int .i64 z6, .int .i64 z7] 31)) := (Below.refl _ _).alloc (Nat.le_refl _) _
    exact ⟨⟨true, fs, (hl.later hbz).later (drewN_below _ _ _), fun hr => ((hf hr).later hbz).later (drewN_below _ _ _)⟩, rfl, kept_t (kept_t HK2.out (Kept.ofBelow hbz [b])) (Kept.ofBelow (drewN_below _ _ _) [b])⟩
  · rw [hsp] at hsi
    subst hsi
    obtain ⟨z1, z2, z3, z4, z5, z6, z7⟩ := dd
    have HZ : Hid (sentB L.text (op.drop 4) n = placedB (op.drop 4) (D.daysV z1 z2 z3) n) := by unfold Hid sentB; rw [hsp]
    have HPl := hid (fun (w0 : World) => placed_any (op.drop 4) (D.daysV z1 z2 z3) n w0)
    rw [← drop_str, str_size] at HPl
    have hol : 4 ≤ op.length := by have := HOl.out; omega
    have hol' : (4 : Int) ≤ op.length := by omega
    have hoz := str_size op
    clear hsp
    have hbz : Below w2.heap.size w2 (w2.alloc (.cells #[.int .i64 z1, .int .i64 z2, .int .i64 z3, .int .i64 z4, .int .i64 z5, .int .i64 z6, .int .i64 z7] 31)) := (Below.refl _ _).alloc (Nat.le_refl _) _
    obtain ⟨w3, hw3⟩ : ∃ w3, w2.alloc (.cells #[.int .i64 z1, .int .i64 z2, .int .i64 z3, .int .i64 z4, .int .i64 z5, .int .i64 z6, .int .i64 z7] 31) = w3 := ⟨_, rfl⟩
    have hd3 : w3.heap[w2.heap.size]? = some (.cells (D.dtL ⟨z1, z2, z3, z4, z5, z6, z7⟩).toArray 31 (0, 0)) := by rw [← hw3]; exact heap_alloc_new _ _
    rw [hw3] at hbz
    have HBz := hid hbz
    have HD3 := hid hd3
    have HQ : Hid (∀ w' : World, KyAt w' w.heap.size ⟨op, t, f, n, (a, p, c), (d, q, g)⟩ → DtAt w' w2.heap.size ⟨z1, z2, z3, z4, z5, z6, z7⟩ → w'.cell? ⟨w.heap.size, 0, none⟩ = some (.string (str op)) ∧ w'.cell? ⟨w.heap.size, 3, none⟩ = some (.int .i64 n) ∧ w'.cell? ⟨w2.heap.size, 0, none⟩ = some (.int .i64 z1) ∧ w'.cell? ⟨w2.heap.size, 1, none⟩ = some (.int .i64 z2) ∧ w'.cell? ⟨w2.heap.size, 2, none⟩ = some (.int .i64 z3) ∧ w'.cell? ⟨w2.heap.size, 3, none⟩ = some (.int .i64 z4) ∧ w'.cell? ⟨w2.heap.size, 4, none⟩ = some (.int .i64 z5) ∧ w'.cell? ⟨w2.heap.size, 5, none⟩ = some (.int .i64 z6) ∧ w'.cell? ⟨w2.heap.size, 6, none⟩ = some (.int .i64 z7)) := by
      intro w' e1 e2
      have k0 := e1.cell 0
      have k3 := e1.cell 3
      simp only [Ky.c, List.getElem?_cons_succ, List.getElem?_cons_zero] at k0 k3
      obtain ⟨y1, y2, y3, y4, y5, y6, y7⟩ := D.cA_load e2
      exact ⟨k0, k3, y1, y2, y3, y4, y5, y6, y7⟩
    have HKy3 := hid (HKy2.out.later hbz)
    have qc := HQ.out w3 HKy3.out hd3
    clear hbz hd3
    simp only [D.dtV, D.dtL]
    go_wp2_with fail
    clear hw3
    go_region_held3 (fun w' => w'.cell? ⟨w.heap.size, 0, none⟩ = some (.string (str op)) ∧ w'.cell? ⟨w.heap.size, 3, none⟩ = some (.int .i64 n) ∧ w'.cell? ⟨w2.heap.size, 0, none⟩ = some (.int .i64 z1) ∧ w'.cell? ⟨w2.heap.size, 1, none⟩ = some (.int .i64 z2) ∧ w'.cell? ⟨w2.heap.size, 2, none⟩ = some (.int .i64 z3) ∧ w'.cell? ⟨w2.heap.size, 3, none⟩ = some (.int .i64 z4) ∧ w'.cell? ⟨w2.heap.size, 4, none⟩ = some (.int .i64 z5) ∧ w'.cell? ⟨w2.heap.size, 5, none⟩ = some (.int .i64 z6) ∧ w'.cell? ⟨w2.heap.size, 6, none⟩ = some (.int .i64 z7)) (first | exact qc | go_keep) (first
      | (go_at_call 41; refine (number_any _ _ _ _ _ _ _ _).mono ?_; rintro e wk ⟨rfl, hb⟩; have HBk : Below w3.heap.size w3 wk := Below.trans (by repeat (first | exact Below.refl _ _ | refine Below.drew ?_)) hb; have qc := HQ.out wk (HKy3.out.later HBk) ((HBk.block _ ((Array.getElem?_eq_some_iff.1 HD3.out).1)).trans HD3.out); clear hb)
      | (go_at_call 40; refine (HPl.out _).mono ?_; rintro e w5 ⟨rfl, hw5⟩; have HB5 : Below w3.heap.size w3 w5 := (by rw [hw5]; repeat (first | exact HBk | refine Below.drew ?_)); have qc := HQ.out w5 (HKy3.out.later HB5) ((HB5.block _ ((Array.getElem?_eq_some_iff.1 HD3.out).1)).trans HD3.out); clear hw5))
    go_wp2_with fail
    go_ret
    rw [HZ.out]
    obtain ⟨fs, hl, hf⟩ := HS.out
    exact ⟨⟨true, fs, (hl.later HBz.out).later HB5, fun hr => ((hf hr).later HBz.out).later HB5⟩, rfl, kept_t (kept_t HK2.out (Kept.ofBelow HBz.out [b])) (Kept.ofBelow HB5 [b])⟩
set_option maxRecDepth 100000 in
set_option maxHeartbeats 4000000 in
theorem sentsince_any {w : World} {b : Nat} {L : Lk} (he : Env w) (hb0 : 0 < b) (h : LkAt w b L) (hf : FsOk w L) (ht : L.text.length ≤ 1000000) (op t f : Bs) (n : Int) (a : Option Addr) (p c : Nat) (d : Option Addr) (q g : Nat) (hop : op = [83, 69, 78, 84, 83, 73, 78, 67, 69]) (hsv : ∀ v ∈ valsL L.text dateN, v.length ≤ 1000000) :
    Calls Tryz.prog 23 #[.pointer (some ⟨b, 0, none⟩), .agg #[.string (str op), .string (str t), .string (str f), .int .i64 n, .slice a p c, .slice d q g]] w fun e w' => Seen2 w' b L ∧ e = .returned (.bool (sentB L.text (op.drop 4) n)) ∧ Kept [b] w w' := by
  have q0 : ((str op).toList == ([65, 76, 76] : Bs)) = false := by rw [toL, hop]; decide
  have q1 : ((str op).toList == ([65, 78, 83, 87, 69, 82, 69, 68] : Bs)) = false := by rw [toL, hop]; decide
  have q2 : ((str op).toList == ([68, 69, 76, 69, 84, 69, 68] : Bs)) = false := by rw [toL, hop]; decide
  have q3 : ((str op).toList == ([68, 82, 65, 70, 84] : Bs)) = false := by rw [toL, hop]; decide
  have q4 : ((str op).toList == ([70, 76, 65, 71, 71, 69, 68] : Bs)) = false := by rw [toL, hop]; decide
  have q5 : ((str op).toList == ([83, 69, 69, 78] : Bs)) = false := by rw [toL, hop]; decide
  have q6 : ((str op).toList == ([85, 78, 65, 78, 83, 87, 69, 82, 69, 68] : Bs)) = false := by rw [toL, hop]; decide
  have q7 : ((str op).toList == ([85, 78, 68, 69, 76, 69, 84, 69, 68] : Bs)) = false := by rw [toL, hop]; decide
  have q8 : ((str op).toList == ([85, 78, 68, 82, 65, 70, 84] : Bs)) = false := by rw [toL, hop]; decide
  have q9 : ((str op).toList == ([85, 78, 70, 76, 65, 71, 71, 69, 68] : Bs)) = false := by rw [toL, hop]; decide
  have q10 : ((str op).toList == ([85, 78, 83, 69, 69, 78] : Bs)) = false := by rw [toL, hop]; decide
  have q11 : ((str op).toList == ([75, 69, 89, 87, 79, 82, 68] : Bs)) = false := by rw [toL, hop]; decide
  have q12 : ((str op).toList == ([85, 78, 75, 69, 89, 87, 79, 82, 68] : Bs)) = false := by rw [toL, hop]; decide
  have q13 : ((str op).toList == ([66, 67, 67] : Bs)) = false := by rw [toL, hop]; decide
  have q14 : ((str op).toList == ([67, 67] : Bs)) = false := by rw [toL, hop]; decide
  have q15 : ((str op).toList == ([70, 82, 79, 77] : Bs)) = false := by rw [toL, hop]; decide
  have q16 : ((str op).toList == ([83, 85, 66, 74, 69, 67, 84] : Bs)) = false := by rw [toL, hop]; decide
  have q17 : ((str op).toList == ([84, 79] : Bs)) = false := by rw [toL, hop]; decide
  have q18 : ((str op).toList == ([72, 69, 65, 68, 69, 82] : Bs)) = false := by rw [toL, hop]; decide
  have q19 : ((str op).toList == ([66, 79, 68, 89] : Bs)) = false := by rw [toL, hop]; decide
  have q20 : ((str op).toList == ([84, 69, 88, 84] : Bs)) = false := by rw [toL, hop]; decide
  have q21 : ((str op).toList == ([66, 69, 70, 79, 82, 69] : Bs)) = false := by rw [toL, hop]; decide
  have q22 : ((str op).toList == ([79, 78] : Bs)) = false := by rw [toL, hop]; decide
  have q23 : ((str op).toList == ([83, 73, 78, 67, 69] : Bs)) = false := by rw [toL, hop]; decide
  have q24 : ((str op).toList == ([83, 69, 78, 84, 66, 69, 70, 79, 82, 69] : Bs)) = false := by rw [toL, hop]; decide
  have q25 : ((str op).toList == ([83, 69, 78, 84, 79, 78] : Bs)) = false := by rw [toL, hop]; decide
  have q99 : ((str op).toList == ([83, 69, 78, 84, 83, 73, 78, 67, 69] : Bs)) = true := by rw [toL, hop]; decide
  have ha : Below w.heap.size w (w.alloc (.cells #[.string (str op), .string (str t), .string (str f), .int .i64 n, .slice a p c, .slice d q g] 28)) := (Below.refl _ _).alloc (Nat.le_refl _) _
  obtain ⟨w1, hw1⟩ : ∃ w1, w.alloc (.cells #[.string (str op), .string (str t), .string (str f), .int .i64 n, .slice a p c, .slice d q g] 28) = w1 := ⟨_, rfl⟩
  have HKy : Hid (KyAt w1 w.heap.size ⟨op, t, f, n, (a, p, c), (d, q, g)⟩) := by rw [← hw1]; exact KyAt.new w ⟨op, t, f, n, (a, p, c), (d, q, g)⟩
  rw [hw1] at ha
  have HE := hid (he.later ha)
  have HAt := hid (h.later ha)
  have HFs : Hid (FsOk w1 L) := fun hr => (hf hr).later ha
  have HB := hid ha
  have HLt := hid h.lt
  have HT := hid ht
  have k0 := HKy.out.cell 0
  have k3 := HKy.out.cell 3
  have l9 := HAt.out.cell 9
  have l2 := HAt.out.cell 2
  have l3 := HAt.out.cell 3
  have l4 := HAt.out.cell 4
  have l5 := HAt.out.cell 5
  have l6 := HAt.out.cell 6
  have l7 := HAt.out.cell 7
  have l8 := HAt.out.cell 8
  simp only [Ky.c, Lk.c, List.getElem?_cons_succ, List.getElem?_cons_zero] at k0 k3 l2 l3 l4 l5 l6 l7 l8 l9
  have hF := fldk b
  have f0 := fun w => (hF w).1
  have g3 := fun w => (hF w).2.2.2.2.2.2.2.2
  have g2 := fld33 b
  have htz := str_size L.text
  have HSV := hid hsv
  have HOl : Hid (6 ≤ op.length) := by rw [Hid, hop]; decide
  clear he h hf ha hF hop
  go_enter Tryz.func23, Tryz.ntmps23
  go_wp2_with fail
  clear hw1
  refine (sent_any HE.out hb0 HAt.out HFs.out HT.out HSV.out).mono ?_
  rintro e w2 ⟨hs, hsi, hkp⟩
  have HS := hid hs
  have HK2 := hid (kept_t (Kept.ofBelow HB.out [b]) hkp)
  have HKy2 := hid (HKy.out.kept hkp (by simp; have := HLt.out; omega))
  unfold SentIs at hsi
  clear hs hkp k0 k3 l2 l3 l4 l5 l6 l7 l8 l9
  rcases hsp : sentP L.text with _ | dd
  · rw [hsp] at hsi
    obtain ⟨dz, rfl⟩ := hsi
    obtain ⟨z1, z2, z3, z4, z5, z6, z7⟩ := dz
    have HZ : Hid (sentB L.text (op.drop 4) n = false) := by unfold Hid sentB; rw [hsp]
    clear hsp
    simp only [D.dtV, D.dtL]
    go_wp2_with fail
    go_quiet (fail)
    go_wp2_with fail
    go_ret
    rw [HZ.out]
    obtain ⟨fs, hl, hf⟩ := HS.out
    have hbz : Below w2.heap.size w2 (w2.alloc (.cells #[.int .i64 z1, .int .i64 z2, .int .i64 z3, .int .i64 z4, .int .i64 z5, .int .i64 z6, .int .i64 z7] 31)) := (Below.refl _ _).alloc (Nat.le_refl _) _
    exact ⟨⟨true, fs, (hl.later hbz).later (drewN_below _ _ _), fun hr => ((hf hr).later hbz).later (drewN_below _ _ _)⟩, rfl, kept_t (kept_t HK2.out (Kept.ofBelow hbz [b])) (Kept.ofBelow (drewN_below _ _ _) [b])⟩
  · rw [hsp] at hsi
    subst hsi
    obtain ⟨z1, z2, z3, z4, z5, z6, z7⟩ := dd
    have HZ : Hid (sentB L.text (op.drop 4) n = placedB (op.drop 4) (D.daysV z1 z2 z3) n) := by unfold Hid sentB; rw [hsp]
    have HPl := hid (fun (w0 : World) => placed_any (op.drop 4) (D.daysV z1 z2 z3) n w0)
    rw [← drop_str, str_size] at HPl
    have hol : 4 ≤ op.length := by have := HOl.out; omega
    have hol' : (4 : Int) ≤ op.length := by omega
    have hoz := str_size op
    clear hsp
    have hbz : Below w2.heap.size w2 (w2.alloc (.cells #[.int .i64 z1, .int .i64 z2, .int .i64 z3, .int .i64 z4, .int .i64 z5, .int .i64 z6, .int .i64 z7] 31)) := (Below.refl _ _).alloc (Nat.le_refl _) _
    obtain ⟨w3, hw3⟩ : ∃ w3, w2.alloc (.cells #[.int .i64 z1, .int .i64 z2, .int .i64 z3, .int .i64 z4, .int .i64 z5, .int .i64 z6, .int .i64 z7] 31) = w3 := ⟨_, rfl⟩
    have hd3 : w3.heap[w2.heap.size]? = some (.cells (D.dtL ⟨z1, z2, z3, z4, z5, z6, z7⟩).toArray 31 (0, 0)) := by rw [← hw3]; exact heap_alloc_new _ _
    rw [hw3] at hbz
    have HBz := hid hbz
    have HD3 := hid hd3
    have HQ : Hid (∀ w' : World, KyAt w' w.heap.size ⟨op, t, f, n, (a, p, c), (d, q, g)⟩ → DtAt w' w2.heap.size ⟨z1, z2, z3, z4, z5, z6, z7⟩ → w'.cell? ⟨w.heap.size, 0, none⟩ = some (.string (str op)) ∧ w'.cell? ⟨w.heap.size, 3, none⟩ = some (.int .i64 n) ∧ w'.cell? ⟨w2.heap.size, 0, none⟩ = some (.int .i64 z1) ∧ w'.cell? ⟨w2.heap.size, 1, none⟩ = some (.int .i64 z2) ∧ w'.cell? ⟨w2.heap.size, 2, none⟩ = some (.int .i64 z3) ∧ w'.cell? ⟨w2.heap.size, 3, none⟩ = some (.int .i64 z4) ∧ w'.cell? ⟨w2.heap.size, 4, none⟩ = some (.int .i64 z5) ∧ w'.cell? ⟨w2.heap.size, 5, none⟩ = some (.int .i64 z6) ∧ w'.cell? ⟨w2.heap.size, 6, none⟩ = some (.int .i64 z7)) := by
      intro w' e1 e2
      have k0 := e1.cell 0
      have k3 := e1.cell 3
      simp only [Ky.c, List.getElem?_cons_succ, List.getElem?_cons_zero] at k0 k3
      obtain ⟨y1, y2, y3, y4, y5, y6, y7⟩ := D.cA_load e2
      exact ⟨k0, k3, y1, y2, y3, y4, y5, y6, y7⟩
    have HKy3 := hid (HKy2.out.later hbz)
    have qc := HQ.out w3 HKy3.out hd3
    clear hbz hd3
    simp only [D.dtV, D.dtL]
    go_wp2_with fail
    clear hw3
    go_region_held3 (fun w' => w'.cell? ⟨w.heap.size, 0, none⟩ = some (.string (str op)) ∧ w'.cell? ⟨w.heap.size, 3, none⟩ = some (.int .i64 n) ∧ w'.cell? ⟨w2.heap.size, 0, none⟩ = some (.int .i64 z1) ∧ w'.cell? ⟨w2.heap.size, 1, none⟩ = some (.int .i64 z2) ∧ w'.cell? ⟨w2.heap.size, 2, none⟩ = some (.int .i64 z3) ∧ w'.cell? ⟨w2.heap.size, 3, none⟩ = some (.int .i64 z4) ∧ w'.cell? ⟨w2.heap.size, 4, none⟩ = some (.int .i64 z5) ∧ w'.cell? ⟨w2.heap.size, 5, none⟩ = some (.int .i64 z6) ∧ w'.cell? ⟨w2.heap.size, 6, none⟩ = some (.int .i64 z7)) (first | exact qc | go_keep) (first
      | (go_at_call 41; refine (number_any _ _ _ _ _ _ _ _).mono ?_; rintro e wk ⟨rfl, hb⟩; have HBk : Below w3.heap.size w3 wk := Below.trans (by repeat (first | exact Below.refl _ _ | refine Below.drew ?_)) hb; have qc := HQ.out wk (HKy3.out.later HBk) ((HBk.block _ ((Array.getElem?_eq_some_iff.1 HD3.out).1)).trans HD3.out); clear hb)
      | (go_at_call 40; refine (HPl.out _).mono ?_; rintro e w5 ⟨rfl, hw5⟩; have HB5 : Below w3.heap.size w3 w5 := (by rw [hw5]; repeat (first | exact HBk | refine Below.drew ?_)); have qc := HQ.out w5 (HKy3.out.later HB5) ((HB5.block _ ((Array.getElem?_eq_some_iff.1 HD3.out).1)).trans HD3.out); clear hw5))
    go_wp2_with fail
    go_ret
    rw [HZ.out]
    obtain ⟨fs, hl, hf⟩ := HS.out
    exact ⟨⟨true, fs, (hl.later HBz.out).later HB5, fun hr => ((hf hr).later HBz.out).later HB5⟩, rfl, kept_t (kept_t HK2.out (Kept.ofBelow HBz.out [b])) (Kept.ofBelow HB5 [b])⟩
end Go.Proofs.YtaniljfjmbifnaaGreatDoor.H
