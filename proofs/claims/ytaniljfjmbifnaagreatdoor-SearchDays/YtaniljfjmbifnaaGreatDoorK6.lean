/- What this text holds: whether a key that asks for a subject matches. -/
import Derived.Test.YtaniljfjmbifnaaGreatDoorK5
namespace Go.Proofs.YtaniljfjmbifnaaGreatDoor.H
open Go.RowKit
set_option linter.unusedVariables false
set_option linter.unusedSimpArgs false

def subj : Bs := [83, 85, 66, 74, 69, 67, 84]
theorem KyAt.new (w : World) (K : Ky) : KyAt (w.alloc (.cells K.c.toArray 28)) w.heap.size K := heap_alloc_new _ _
theorem vals_len {t : Bs} (ht : t.length ≤ 1000000) (name : Bs) : (valsL t name).length ≤ 1000000 := by
  unfold valsL getP
  rw [List.length_map]
  exact Nat.le_trans (List.length_filter_le _ _) (head_len t ht).1
set_option maxRecDepth 100000 in
set_option maxHeartbeats 4000000 in
theorem subject_any {w : World} {b : Nat} {L : Lk} (he : Env w) (hb0 : 0 < b) (h : LkAt w b L) (hf : FsOk w L) (ht : L.text.length ≤ 1000000) (op t f : Bs) (n : Int) (a : Option Addr) (p c : Nat) (d : Option Addr) (q g : Nat) (htl : t.length ≤ 10000000) (hop : op = subj)
    (hv : ∀ v ∈ valsL L.text op, (W.joined [v]).length ≤ 1000000 ∧ (wordW v).length ≤ 10000000) :
    Calls Tryz.prog 23 #[.pointer (some ⟨b, 0, none⟩), .agg #[.string (str op), .string (str t), .string (str f), .int .i64 n, .slice a p c, .slice d q g]] w fun e w' => (∃ fs, LkAt w' b { L with rd := true, fs := fs } ∧ FsOk w' { L with rd := true, fs := fs }) ∧ e = .returned (.bool (asksB (valsL L.text op) t)) ∧ Kept [b] w w' := by
  have q0 : ((str op).toList == ([65, 76, 76] : Bs)) = false := by rw [toL, hop]; decide
  have q1 : ((str op).toList == ([65, 78, 83, 87, 69, 82, 69, 68] : Bs)) = false := by rw [toL, hop]; decide
  have q2 : ((str op).toList == ([68, 69, 76, 69, 84, 69, 68] : Bs)) = false := by rw [toL, hop]; decide
  have q3 : ((str op).toList == ([68, 82, 65, 70, 84] : Bs)) = false := by rw [toL, hop]; decide
  have q4 : ((str op).toList == ([70, 76, 65, 71, 71, 69, 68] : Bs)) = false := by rw [toL, hop]; decide
  have q5 : ((str op).toList == ([83, 69, 69, 78] : Bs)) = false := by rw [toL, hop]; decide
  have q6 : ((str op).toList == ([85, 78, 65, 78, 83, 87, 69, 82, 69, 68] : Bs)) = false := by rw [toL, hop]; decide
  have q7 : ((str op).toList == ([85, 78, 68, 69, 76, 69, 84, 69, 68] : Bs)) = false := by rw [toL, hop]; decide
  have q8 : ((str op).toList == ([85, 78, 68, 82, 65, 70, 84] : Bs)) = false := by rw [toL, hop]; decide
  have q9 : ((str op).toList == ([85, 78, 70, 76, 65, 71, 71, 69, 68] : Bs)) = false := by rw [toL, hop]; decide
  have q10 : ((str op).toList == ([85, 78, 83, 69, 69, 78] : Bs)) = false := by rw [toL, hop]; decide
  have q11 : ((str op).toList == ([75, 69, 89, 87, 79, 82, 68] : Bs)) = false := by rw [toL, hop]; decide
  have q12 : ((str op).toList == ([85, 78, 75, 69, 89, 87, 79, 82, 68] : Bs)) = false := by rw [toL, hop]; decide
  have q13 : ((str op).toList == ([66, 67, 67] : Bs)) = false := by rw [toL, hop]; decide
  have q14 : ((str op).toList == ([67, 67] : Bs)) = false := by rw [toL, hop]; decide
  have q15 : ((str op).toList == ([70, 82, 79, 77] : Bs)) = false := by rw [toL, hop]; decide
  have q99 : ((str op).toList == ([83, 85, 66, 74, 69, 67, 84] : Bs)) = true := by rw [toL, hop]; decide
  have hopl : op.length ≤ 10000000 := by rw [hop]; decide
  clear hop
  have ha : Below w.heap.size w (w.alloc (.cells #[.string (str op), .string (str t), .string (str f), .int .i64 n, .slice a p c, .slice d q g] 28)) := (Below.refl _ _).alloc (Nat.le_refl _) _
  obtain ⟨w1, hw1⟩ : ∃ w1, w.alloc (.cells #[.string (str op), .string (str t), .string (str f), .int .i64 n, .slice a p c, .slice d q g] 28) = w1 := ⟨_, rfl⟩
  have HKy : Hid (KyAt w1 w.heap.size ⟨op, t, f, n, (a, p, c), (d, q, g)⟩) := by rw [← hw1]; exact KyAt.new w ⟨op, t, f, n, (a, p, c), (d, q, g)⟩
  rw [hw1] at ha
  have HE := hid (he.later ha)
  have HAt := hid (h.later ha)
  have HFs : Hid (FsOk w1 L) := fun hr => (hf hr).later ha
  have HB := hid ha
  have HLt := hid h.lt
  have HV := hid hv
  have HT := hid ht
  have HTL := hid htl
  have C := values_any HE.out hb0 HAt.out HFs.out ht op hopl
  have k0 := HKy.out.cell 0
  have k1 := HKy.out.cell 1
  simp only [Ky.c, List.getElem?_cons_succ, List.getElem?_cons_zero] at k0 k1
  clear he h hf ha hv
  go_enter Tryz.func23, Tryz.ntmps23
  go_wp2_with fail
  clear hw1
  refine C.mono ?_
  rintro e w2 ⟨u, fs, rfl, hr, hl, hfs, hkp⟩
  have HKy2 := hid (HKy.out.kept hkp (by simp; have := HLt.out; omega))
  have HE2 : Hid (Env w2) := by
    obtain ⟨m, hm⟩ := HE.out
    exact ⟨m, (World.cell?_of_block (hkp.block 0 (by have := HB.out.size; have := HLt.out; omega) (by simp; omega))).trans hm⟩
  have D := asks_any HE2.out HKy2.out hr (vals_len HT.out op) HV.out HTL.out
  obtain ⟨_, ra, rc, hru, _⟩ := id hr
  subst hru
  rw [List.length_map] at D ⊢
  have HL2 := hid hl
  have HF2 := hid hfs
  have HK2 := hid (kept_t (Kept.ofBelow HB.out [b]) hkp)
  clear hr hl hfs hkp C k0 k1
  go_wp2_with fail
  refine D.mono ?_
  rintro e w3 ⟨rfl, b3⟩
  have HL3 := hid (HL2.out.later b3)
  have HF3 : Hid (FsOk w3 { L with rd := true, fs := fs }) := fun hr => (HF2.out hr).later b3
  have HK3 := hid (kept_t HK2.out (Kept.ofBelow b3 [b]))
  clear b3 D
  go_wp2_with fail
  go_ret
  exact ⟨⟨fs, HL3.out, HF3.out⟩, rfl, HK3.out⟩
end Go.Proofs.YtaniljfjmbifnaaGreatDoor.H
